/- The texts E6 I6, joined. No statement is proved here. -/
import Derived.Test.YtklehkkclojccaaGreatK42
import Derived.Test.YtklehkkclojccaaGreatK33
import Derived.Test.YtklehkkclojccaaGreatK52
/- The program's RunInstance: a machine executes an event. No statement is proved here. -/
namespace Go.Proofs.YtklehkkclojccaaGreat
open Go.RowKit Go.Maps
def exM (ars : List Arr) (xs : List Int) (y : InsM) : List Int := xs.set (writeCell ars y.2 y.1.2.2).toNat (evX ars xs y.1.2.2 5 y.2.2.2)
theorem exM_len (ars : List Arr) (xs : List Int) (y : InsM) : (exM ars xs y).length = xs.length := by simp [exM]
theorem ins_facts {ars : List Arr} {ps : List Pt} (hprog : progB ars ps = true) {y : InsM} (hy : y ∈ insM ps) :
  (∃ d, shapeB 5 y.2.2.2 d = true) ∧ 0 ≤ writeCell ars y.2 y.1.2.2 ∧ writeCell ars y.2 y.1.2.2 < totN ars := by
 obtain ⟨p, hp1, hp2, hp3⟩ := insM_mem.1 hy
 obtain ⟨hab, -, hpo, -⟩ := progB_inv hprog
 have hpB := hpo p (List.mem_of_getElem? hp1)
 simp only [partB, Bool.and_eq_true, decide_eq_true_eq, List.all_eq_true, stOkB] at hpB
 obtain ⟨hnpB, ⟨hb1, hb4⟩, hall⟩ := hpB
 have hst := hall y.2 (List.mem_of_getElem? hp3)
 have hok : ∀ a ∈ ars, arrOkB a = true := by have h := hab; simp only [arrsB, Bool.and_eq_true, List.all_eq_true] at h; exact h.1
 exact ⟨⟨_, validB_shape hst.1⟩, write_bd hok (hst.2 _ hp2).1⟩
theorem exM_mem {ars : List Arr} {ps : List Pt} {xs : List Int} (hmb : memB ars ps xs = true) {y : InsM} (hy : y ∈ insM ps) : memB ars ps (exM ars xs y) = true := by
 obtain ⟨hv, hp, hl⟩ := memB_parts hmb
 obtain ⟨⟨d, hsh⟩, -, -⟩ := ins_facts hp hy
 have hb := evX_bd (ars := ars) (pt := y.1.2.2) hv 5 _ hsh
 unfold memB
 rw [hp, exM_len, hl, decide_eq_true rfl]
 simp only [Bool.and_true]
 unfold valsB at hv ⊢
 rw [List.all_eq_true] at hv ⊢
 intro x hx
 rcases List.mem_or_eq_of_mem_set hx with h | h
 ·exact hv x h
 ·subst h
  simpa using hb
theorem MachR.write {L : Nat} {W : World} {v : Value} {ars : List Arr} {ps : List Pt} {xs : List Int} (h : MachR L W v ars ps xs) {C : Nat} (hC : C < xs.length) (u : Int) :
  ∃ (mo : Option Nat) (T : Int) (q1 : Option Addr) (n1 c1 : Nat) (q2 : Option Addr) (n2 c2 gm cm : Nat) (q4 : Option Addr) (n4 c4 : Nat), v = .agg #[.map mo, .int .i64 T, .slice q1 n1 c1, .slice q2 n2 c2, .slice (some ⟨gm, 0, none⟩) xs.length cm, .slice q4 n4 c4] ∧ L ≤ gm ∧ gm < W.heap.size ∧
   (∃ x, W.cell? ⟨gm, C, none⟩ = some (.int .i64 x)) ∧ (∀ j, W.frozen? ⟨gm, j, none⟩ = false) ∧ MachR L (W.setCell ⟨gm, C, none⟩ (.int .i64 u)) v ars ps (xs.set C u) := by
 obtain ⟨Z, B, M0, Lo, Bm, D, q1, c1, q2, c2, pm, cm, pf, cf, hv, hom, hmi, hev, hZ, hLM, hZM, hmem, hml, hfs⟩ := h
 obtain ⟨gm, rfl, h1, h2, h3, h4, h5⟩ := hmem.opened rfl (by omega)
 have hlo := hml gm rfl
 obtain ⟨x, hx⟩ := get_some (xs := xs) (k := C) hC
 refine ⟨_, _, _, _, _, _, _, _, gm, cm, _, _, _, hv, by omega, h2, ⟨x, h3 C x hx⟩, h4, Z, B, M0, Lo, Bm, D, q1, c1, q2, c2, some ⟨gm, 0, none⟩, cm, pf, cf, ?_, hom, hmi, hev, hZ.setAt (by omega) _, hLM, hZM, ?_, ?_, ?_⟩
 ·rw [List.length_set]; exact hv
 ·rw [List.length_set]; exact h5 C u
 ·rw [List.length_set]; exact hml
 ·obtain ⟨vs, ho, he⟩ := hfs
  have hob := own_ge2 ho
  exact FsL.keep ⟨vs, ho, he⟩ (fun g hg _ => Below.heap_setCell _ _ _ _ (fun e => by have e' : g = gm := e; omega)) (fun b hb => Below.heap_setCell _ _ _ _ (fun e => by have e' : b = gm := e; have := (hob b hb).1; omega))
set_option linter.unusedVariables false in
set_option linter.unusedSimpArgs false in
set_option maxRecDepth 100000 in
set_option maxHeartbeats 4000000 in
theorem execute_any {L : Nat} {W : World} {v : Value} {ars : List Arr} {ps : List Pt} {xs : List Int} (hM : MachR L W v ars ps xs) (hmb : memB ars ps xs = true) {y : InsM} (hy : y ∈ insM ps) (g d1 : Nat) (r : Option Addr) (nr kk : Nat) (hpt : IntsAt W (.slice (some ⟨g, 0, none⟩) y.1.2.2.length d1) y.1.2.2) :
  Calls Tryz.prog 63 #[v, .agg #[.int .i64 (y.1.1 : Int), .int .i64 (y.1.2.1 : Int), .slice (some ⟨g, 0, none⟩) y.1.2.2.length d1, .slice r nr kk, .int .i64 (writeCell ars y.2 y.1.2.2)]] W fun e w' => e = .returned (.tuple #[]) ∧ MachR L w' v ars ps (exM ars xs y) ∧ ∃ gm n cm a b c d f, v = .agg #[a, b, c, d, .slice (some ⟨gm, 0, none⟩) n cm, f] ∧ L ≤ gm ∧ gm < W.heap.size ∧ Lv (fun b => b = gm) W w' := by
 obtain ⟨hvals, hprog, hlen⟩ := memB_parts hmb
 obtain ⟨-, hc0, hc1⟩ := ins_facts hprog hy
 obtain ⟨C, hC⟩ : ∃ C : Nat, writeCell ars y.2 y.1.2.2 = C := ⟨(writeCell ars y.2 y.1.2.2).toNat, by omega⟩
 obtain ⟨z, hz⟩ : ∃ z, evX ars xs y.1.2.2 5 y.2.2.2 = z := ⟨_, rfl⟩
 have HEX : Hid (exM ars xs y = xs.set C z) := Lib.hid (by unfold exM; rw [hC, hz, Int.toNat_natCast])
 have hCl : C < xs.length := by omega
 have HV := Lib.hid (fun W' (hW : Ext W W') => value_any (hM.ext hW) hmb hy g d1 r nr kk (C : Int) (hpt.ext hW))
 have HW := Lib.hid (fun W' (hW : Ext W W') => (hM.ext hW).write hCl z)
 obtain ⟨mo, T, q1, n1, c1, q2, n2, c2, gm, cm, q4, n4, c4, rfl, hg1, hg2, ⟨x0, hx0⟩, hfz, -⟩ := hM.write hCl z
 rw [hz] at HV
 rw [hC]
 obtain ⟨lp, hlp⟩ : ∃ n, y.1.2.2.length = n := ⟨_, rfl⟩
 rw [hlp] at HV ⊢
 obtain ⟨ii, hii⟩ : ∃ n, y.1.1 = n := ⟨_, rfl⟩
 obtain ⟨jj, hjj⟩ : ∃ n, y.1.2.1 = n := ⟨_, rfl⟩
 rw [hii, hjj] at HV ⊢
 obtain ⟨m, hm⟩ : ∃ m, xs.length = m := ⟨_, rfl⟩
 rw [hm] at hCl HV ⊢
 have HMM := Lib.hid hm
 have HFZ := Lib.hid hfz
 clear hvals hprog hlen hc0 hc1 hC hz hlp hii hjj hy hpt hmb hM hm hfz
 have hcl : (C : Int) < (m : Int) := by omega
 go_enter Tryz.func63, Tryz.ntmps63
 go_wp2
 obtain ⟨W1, hW1⟩ : ∃ W1, ((W.alloc (.cells #[.map mo, .int .i64 T, .slice q1 n1 c1, .slice q2 n2 c2, .slice (some ⟨gm, 0, none⟩) m cm, .slice q4 n4 c4] 87)).alloc (.cells #[.int .i64 (ii : Int), .int .i64 (jj : Int), .slice (some ⟨g, 0, none⟩) lp d1, .slice r nr kk, .int .i64 (C : Int)] 76)) = W1 := ⟨_, rfl⟩
 have E1 : Hid (Ext W W1) := Lib.hid (by rw [← hW1]; exact ((Ext.refl W).alloc _).alloc _)
 have A1 := Lib.hid (show W1.heap[W.heap.size]? = some (.cells #[.map mo, .int .i64 T, .slice q1 n1 c1, .slice q2 n2 c2, .slice (some ⟨gm, 0, none⟩) m cm, .slice q4 n4 c4] 87 (0, 0)) by rw [← hW1]; exact blk_old (blk_at rfl))
 have B1 := Lib.hid (show W1.heap[W.heap.size + 1]? = some (.cells #[.int .i64 (ii : Int), .int .i64 (jj : Int), .slice (some ⟨g, 0, none⟩) lp d1, .slice r nr kk, .int .i64 (C : Int)] 76 (0, 0)) by rw [← hW1]; exact blk_at (by simp))
 try rw [hW1]
 clear hW1
 obtain ⟨a0, a1, a2, a3, a4, a5, -⟩ := blk6 A1.out
 obtain ⟨b0, b1, b2, b3, b4, -⟩ := blk5e B1.out
 have hn1 : ¬ (W.heap.size = gm) := by omega
 have hn2 : ¬ (W.heap.size + 1 = gm) := by omega
 go_region_held3 (fun X => X.cell? ⟨W.heap.size, 0, none⟩ = some (.map mo) ∧ X.cell? ⟨W.heap.size, 1, none⟩ = some (.int .i64 T) ∧ X.cell? ⟨W.heap.size, 2, none⟩ = some (.slice q1 n1 c1) ∧ X.cell? ⟨W.heap.size, 3, none⟩ = some (.slice q2 n2 c2) ∧ X.cell? ⟨W.heap.size, 4, none⟩ = some (.slice (some ⟨gm, 0, none⟩) m cm) ∧ X.cell? ⟨W.heap.size, 5, none⟩ = some (.slice q4 n4 c4) ∧ X.cell? ⟨W.heap.size + 1, 0, none⟩ = some (.int .i64 (ii : Int)) ∧ X.cell? ⟨W.heap.size + 1, 1, none⟩ = some (.int .i64 (jj : Int)) ∧ X.cell? ⟨W.heap.size + 1, 2, none⟩ = some (.slice (some ⟨g, 0, none⟩) lp d1) ∧ X.cell? ⟨W.heap.size + 1, 3, none⟩ = some (.slice r nr kk) ∧ X.cell? ⟨W.heap.size + 1, 4, none⟩ = some (.int .i64 (C : Int)))
  (first | exact ⟨a0, a1, a2, a3, a4, a5, b0, b1, b2, b3, b4⟩ | exact ⟨g3.keep a0, g3.keep a1, g3.keep a2, g3.keep a3, g3.keep a4, g3.keep a5, g3.keep b0, g3.keep b1, g3.keep b2, g3.keep b3, g3.keep b4⟩ | exact ⟨(lv_set _ gm C _).cellAt (g3.keep a0) hn1, (lv_set _ gm C _).cellAt (g3.keep a1) hn1, (lv_set _ gm C _).cellAt (g3.keep a2) hn1, (lv_set _ gm C _).cellAt (g3.keep a3) hn1, (lv_set _ gm C _).cellAt (g3.keep a4) hn1, (lv_set _ gm C _).cellAt (g3.keep a5) hn1, (lv_set _ gm C _).cellAt (g3.keep b0) hn2, (lv_set _ gm C _).cellAt (g3.keep b1) hn2, (lv_set _ gm C _).cellAt (g3.keep b2) hn2, (lv_set _ gm C _).cellAt (g3.keep b3) hn2, (lv_set _ gm C _).cellAt (g3.keep b4) hn2⟩ | fail)
  (first | (go_at_call 112; (with_reducible refine (HV.out _ (E1.out.trans (Ext.refl W1).drew)).mono ?_); rintro e w2 ⟨rfl, hE2⟩; have g3 := (Ext.refl W1).drew.trans hE2; have hx2 := (E1.out.trans g3).keep hx0; have hf2 := ((E1.out.trans g3).cells.2 gm C hg2).trans (HFZ.out C)) | fail)
 have E2 := Lib.hid (E1.out.trans g3)
 obtain ⟨_, _, _, _, _, _, _, _, gm', _, _, _, _, he, -, -, -, -, hMR⟩ := HW.out w2 E2.out
 rw [HMM.out] at he
 cases he
 have HMR := Lib.hid hMR
 clear g3 hE2 hMR hn1 hn2 a0 a1 a2 a3 a4 a5 b0 b1 b2 b3 b4 hx2 hf2
 go_wp2
 have hL := ((E2.out.lv (D := fun _ => False)).trans (lv_set w2 gm C (.int .i64 z)) (E := fun b => b = gm) (fun _ _ h => h.elim) (fun _ _ h => h))
 have hMR := HMR.out
 rw [← HEX.out, HMM.out] at hMR
 go_end0
 exact ⟨rfl, hMR, gm, _, _, _, _, _, _, _, rfl, hg1, hg2, hL⟩
theorem MachR.mem {L : Nat} {W : World} {a b c d s f : Value} {ars : List Arr} {ps : List Pt} {xs : List Int} (h : MachR L W (.agg #[a, b, c, d, s, f]) ars ps xs) : IntsOwn L W s xs := by
 obtain ⟨Z, B, M0, Lo, Bm, D, q1, c1, q2, c2, pm, cm, pf, cf, hv, hom, hmi, hev, hZ, hLM, hZM, hmem, hml, hfs⟩ := h
 cases hv
 exact hmem.weak hLM
end Go.Proofs.YtklehkkclojccaaGreat
/- The model's RunInstance. No statement is proved here. -/
namespace Go.Proofs.YtklehkkclojccaaGreat
open Go.RowKit Go.Maps
theorem blk9' {W : World} {g : Nat} {a b c d e f h i j : Value} {t : TypeId} (hh : W.heap[g]? = some (.cells #[a, b, c, d, e, f, h, i, j] t (0, 0))) : W.cell? ⟨g, 0, none⟩ = some a ∧ W.cell? ⟨g, 1, none⟩ = some b ∧ W.cell? ⟨g, 2, none⟩ = some c ∧ W.cell? ⟨g, 3, none⟩ = some d ∧ W.cell? ⟨g, 4, none⟩ = some e ∧ W.cell? ⟨g, 5, none⟩ = some f ∧ W.cell? ⟨g, 6, none⟩ = some h ∧ W.cell? ⟨g, 7, none⟩ = some i ∧ W.cell? ⟨g, 8, none⟩ = some j := by
 simp [World.cell?, hh]
set_option linter.unusedVariables false in
set_option linter.unusedSimpArgs false in
set_option maxRecDepth 100000 in
set_option maxHeartbeats 4000000 in
theorem l5Run_any (w0 : World) (v : Value) (ars : List Arr) (ps : List Pt) (B : Nat) (pm : Option Addr) (m cm : Nat) (xs : List Int) (y : InsM) (pp : Option Addr) (n c : Nat) (W : World) (hp : PrR w0 v ars ps) (hE0 : Ext w0 W) (hB : w0.heap.size ≤ B) (hmb : memB ars ps xs = true) (hm : xs.length = m) (hs : IntsOwn B W (.slice pm m cm) xs) (hy : y ∈ insM ps) (hi : IntsAt W (.slice pp n c) y.1.2.2) :
  Calls Tryz.prog 59 #[v, .slice pm m cm, .agg #[.int .i64 (y.1.1 : Int), .int .i64 (y.1.2.1 : Int), .slice pp n c]] W fun e w' => e = .returned (.tuple #[]) ∧ IntsOwn B w' (.slice pm m cm) (exM ars xs y) ∧ ∃ gm, pm = some ⟨gm, 0, none⟩ ∧ B ≤ gm ∧ gm < W.heap.size ∧ Lv (fun b => b = gm) W w' := by
 obtain ⟨q1, c1, q2, c2, rfl, la, lp, ha, hps⟩ := hp.parts
 obtain ⟨hvals, hprog, hlen⟩ := memB_parts hmb
 obtain ⟨-, hc0, hc1⟩ := ins_facts hprog hy
 obtain ⟨p, hp1, hp2, hp3⟩ := insM_mem.1 hy
 obtain ⟨hab, -, hpo, -⟩ := progB_inv hprog
 have hpB := hpo p (List.mem_of_getElem? hp1)
 simp only [partB, Bool.and_eq_true, decide_eq_true_eq, List.all_eq_true, stOkB] at hpB
 obtain ⟨hnpB, ⟨hb1, hb4⟩, hall⟩ := hpB
 have hst := hall y.2 (List.mem_of_getElem? hp3)
 have hcell := (hst.2 _ hp2).1
 obtain ⟨hacc, hsh, -⟩ := valid_shape hst.1
 obtain ⟨-, hwv, hwb, hwl⟩ := four_of_accB hacc
 have hwl2 : y.2.2.1.length ≤ 2 := by simp only [accB, Bool.and_eq_true, decide_eq_true_eq] at hacc; exact hacc.2.2.2
 obtain ⟨C, hC⟩ : ∃ C : Nat, writeCell ars y.2 y.1.2.2 = C := ⟨(writeCell ars y.2 y.1.2.2).toNat, by omega⟩
 obtain ⟨z, hz⟩ : ∃ z, evX ars xs y.1.2.2 5 y.2.2.2 = z := ⟨_, rfl⟩
 have HEX : Hid (exM ars xs y = xs.set C z) := Lib.hid (by unfold exM; rw [hC, hz, Int.toNat_natCast])
 have hCl : C < m := by omega
 obtain ⟨gm, rfl, hg1, hg2, hcells, hfz, -⟩ := hs.opened hm (by omega)
 obtain ⟨x0, hx0⟩ := get_some (xs := xs) (k := C) (by omega)
 have hxc := hcells C x0 hx0
 have HFZ := Lib.hid (hfz C)
 have HSET := Lib.hid (fun W' (hW : Ext W W') => by
  obtain ⟨gm', e, -, -, -, -, h⟩ := (hs.ext hW).opened hm (by omega)
  cases e
  exact h C z)
 have HPT := Lib.hid (ptW_of (hst.2 _ hp2).2)
 have HVS := Lib.hid hvals; have HSH := Lib.hid hsh; have HWV := Lib.hid hwv; have HWB := Lib.hid hwb; have HWL := Lib.hid (show 1 ≤ y.2.2.1.length ∧ y.2.2.1.length ≤ 2 from ⟨hwl, hwl2⟩)
 have HOK : Hid (∀ a ∈ ars, arrOkB a = true) := Lib.hid (by have h := hab; simp only [arrsB, Bool.and_eq_true, List.all_eq_true] at h; exact h.1)
 have HRD := Lib.hid (rdOk_of (m := m) HOK.out hcell (by rw [← hlen, hm]))
 obtain ⟨na, hna⟩ : ∃ m, ars.length = m := ⟨_, rfl⟩
 obtain ⟨np, hnp⟩ : ∃ m, ps.length = m := ⟨_, rfl⟩
 rw [hna] at ha ⊢
 rw [hnp] at hps ⊢
 have hn4 : na ≤ 4 := by have := arrs_len hab; omega
 obtain ⟨b, off, p1, m1, p2, m2, rfl, d0, d1, hbb, hls, hss⟩ := (hps.ext hE0).elem hp1
 obtain ⟨b2, off2, r1, e1, r2, e2, r3, e3, r4, e4, hbe, s0, s1, s2, s3, s4, s5, s6, s7, s8, hb2, hstr, -⟩ := hss.elem' hp3
 obtain ⟨nb, hnb⟩ : ∃ m, p.2.length = m := ⟨_, rfl⟩
 rw [hnb] at d1 hss
 subst hbe
 have hi1 : (y.1.1 : Int) < (np : Int) := by have := (List.getElem?_eq_some_iff.1 hp1).1; omega
 have hj1 : (y.1.2.1 : Int) < (nb : Int) := by have := (List.getElem?_eq_some_iff.1 hp3).1; omega
 obtain ⟨f1, g1, f2, g2, f3, g3', f4, g4', hse0, -, hsub, hex⟩ := hstr.parts
 simp only [Value.agg.injEq, Array.mk.injEq, List.cons.injEq, and_true, true_and, Value.slice.injEq, Value.int.injEq, Value.string.injEq] at hse0
 obtain ⟨⟨rfl, rfl⟩, ⟨rfl, rfl⟩, ⟨rfl, rfl⟩, ⟨rfl, rfl⟩⟩ := hse0
 have HA := Lib.hid (ha.ext hE0); have HI := Lib.hid hi; have HM := Lib.hid hm; have HNA := Lib.hid hna; have HSUB := Lib.hid hsub; have HEXR := Lib.hid hex; have HSI := Lib.hid hs.at
 have HCV : Hid (cellI y.2.1 y.2.2.1 y.1.2.2 0 ars = (C : Int)) := Lib.hid hC
 have HZV := Lib.hid hz
 obtain ⟨ii, hii⟩ : ∃ m, y.1.1 = m := ⟨_, rfl⟩
 obtain ⟨jj, hjj⟩ : ∃ m, y.1.2.1 = m := ⟨_, rfl⟩
 rw [hii] at d0 d1 hi1
 rw [hjj] at s0 s1 s2 s3 s4 s5 s6 s7 s8 hj1
 rw [hii, hjj]
 have hcl : (C : Int) < (m : Int) := by omega
 clear hp ha hps hmb hvals hprog hlen hc0 hc1 hp1 hp2 hp3 hab hpo hnpB hb1 hb4 hall hst hcell hacc hsh hwv hwb hwl hwl2 hC hz hcells hfz hx0 hna hnp hls hss hnb hstr hsub hex hii hjj hy hi hs hm
 go_enter Tryz.func59, Tryz.ntmps59
 go_wp2
 obtain ⟨W1, hW1⟩ : ∃ W1, ((W.alloc (.cells #[.slice q1 na c1, .slice (some ⟨b, off, none⟩) np c2] 32)).alloc (.cells #[.int .i64 (ii : Int), .int .i64 (jj : Int), .slice pp n c] 74)) = W1 := ⟨_, rfl⟩
 have E1 : Hid (Ext W W1) := Lib.hid (by rw [← hW1]; exact ((Ext.refl W).alloc _).alloc _)
 have A1 := Lib.hid (show W1.heap[W.heap.size]? = some (.cells #[.slice q1 na c1, .slice (some ⟨b, off, none⟩) np c2] 32 (0, 0)) by rw [← hW1]; exact blk_old (blk_at rfl))
 have B1 := Lib.hid (show W1.heap[W.heap.size + 1]? = some (.cells #[.int .i64 (ii : Int), .int .i64 (jj : Int), .slice pp n c] 74 (0, 0)) by rw [← hW1]; exact blk_at (by simp))
 have hs1' : W1.heap.size = W.heap.size + 2 := by rw [← hW1]; simp
 have HS1 := Lib.hid hs1'
 try rw [hW1]
 clear hW1 hs1'
 obtain ⟨y0, y1, -, -⟩ := blk2 A1.out
 obtain ⟨z0, z1, z2⟩ := blk3 B1.out
 replace d1 := E1.out.keep d1
 replace s0 := E1.out.keep s0
 replace s1 := E1.out.keep s1
 replace s2 := E1.out.keep s2
 replace s3 := E1.out.keep s3
 replace s4 := E1.out.keep s4
 replace s5 := E1.out.keep s5
 replace s6 := E1.out.keep s6
 replace s7 := E1.out.keep s7
 replace s8 := E1.out.keep s8
 have hlb := lt_of_block B1.out
 have hla := lt_of_block A1.out
 have hb2' : b2 < W1.heap.size := Nat.lt_of_lt_of_le hb2 E1.out.size_le
 have hbb' : b < W1.heap.size := Nat.lt_of_lt_of_le hbb E1.out.size_le
 clear hb2 hbb
 go_region
 go_wp2
 obtain ⟨W2, hW2⟩ : ∃ W2, (W1.alloc (.cells #[.string y.2.1, .slice r1 y.2.2.1.length e1, .int .i64 y.2.2.2.kind, .int .i64 y.2.2.2.num, .slice r2 y.2.2.2.ix.1.length e2, .int .i64 y.2.2.2.ix.2, .string y.2.2.2.arr, .slice r3 y.2.2.2.subs.length e3, .slice r4 y.2.2.2.kids.length e4] 181)).drew = W2 := ⟨_, rfl⟩
 have E2 : Hid (Ext W1 W2) := Lib.hid (by rw [← hW2]; exact ((Ext.refl W1).alloc _).drew)
 have T2 := Lib.hid (show W2.heap[W1.heap.size]? = some (.cells #[.string y.2.1, .slice r1 y.2.2.1.length e1, .int .i64 y.2.2.2.kind, .int .i64 y.2.2.2.num, .slice r2 y.2.2.2.ix.1.length e2, .int .i64 y.2.2.2.ix.2, .string y.2.2.2.arr, .slice r3 y.2.2.2.subs.length e3, .slice r4 y.2.2.2.kids.length e4] 181 (0, 0)) by rw [← hW2]; exact (Ext.refl _).drew.blk (blk_at rfl))
 try rw [hW2]
 clear hW2
 replace y0 := E2.out.keep y0
 replace z2 := E2.out.keep z2
 clear y1 z0 z1 d1 s0 s1 s2 s3 s4 s5 s6 s7 s8 hlb hla hb2' hbb'
 obtain ⟨t0, t1, t2, t3, t4, t5, t6, t7, t8⟩ := blk9' T2.out
 have hn1 : ¬ (W.heap.size = gm) := by omega
 have hn2 : ¬ (W.heap.size + 1 = gm) := by omega
 have hn3 : ¬ (W1.heap.size = gm) := by have := HS1.out; omega
 have E02 := Lib.hid (E1.out.trans E2.out)
 go_region_held3 (fun X => X.cell? ⟨W.heap.size, 0, none⟩ = some (.slice q1 na c1) ∧ X.cell? ⟨W.heap.size + 1, 2, none⟩ = some (.slice pp n c) ∧ X.cell? ⟨W1.heap.size, 0, none⟩ = some (.string y.2.1) ∧ X.cell? ⟨W1.heap.size, 1, none⟩ = some (.slice r1 y.2.2.1.length e1) ∧ X.cell? ⟨W1.heap.size, 2, none⟩ = some (.int .i64 y.2.2.2.kind) ∧ X.cell? ⟨W1.heap.size, 3, none⟩ = some (.int .i64 y.2.2.2.num) ∧ X.cell? ⟨W1.heap.size, 4, none⟩ = some (.slice r2 y.2.2.2.ix.1.length e2) ∧ X.cell? ⟨W1.heap.size, 5, none⟩ = some (.int .i64 y.2.2.2.ix.2) ∧ X.cell? ⟨W1.heap.size, 6, none⟩ = some (.string y.2.2.2.arr) ∧ X.cell? ⟨W1.heap.size, 7, none⟩ = some (.slice r3 y.2.2.2.subs.length e3) ∧ X.cell? ⟨W1.heap.size, 8, none⟩ = some (.slice r4 y.2.2.2.kids.length e4))
  (first | exact ⟨y0, z2, t0, t1, t2, t3, t4, t5, t6, t7, t8⟩ | exact ⟨g4.keep y0, g4.keep z2, g4.keep t0, g4.keep t1, g4.keep t2, g4.keep t3, g4.keep t4, g4.keep t5, g4.keep t6, g4.keep t7, g4.keep t8⟩ | exact ⟨g5.keep y0, g5.keep z2, g5.keep t0, g5.keep t1, g5.keep t2, g5.keep t3, g5.keep t4, g5.keep t5, g5.keep t6, g5.keep t7, g5.keep t8⟩ | exact ⟨(lv_set _ gm C _).cellAt (g5.keep y0) hn1, (lv_set _ gm C _).cellAt (g5.keep z2) hn2, (lv_set _ gm C _).cellAt (g5.keep t0) hn3, (lv_set _ gm C _).cellAt (g5.keep t1) hn3, (lv_set _ gm C _).cellAt (g5.keep t2) hn3, (lv_set _ gm C _).cellAt (g5.keep t3) hn3, (lv_set _ gm C _).cellAt (g5.keep t4) hn3, (lv_set _ gm C _).cellAt (g5.keep t5) hn3, (lv_set _ gm C _).cellAt (g5.keep t6) hn3, (lv_set _ gm C _).cellAt (g5.keep t7) hn3, (lv_set _ gm C _).cellAt (g5.keep t8) hn3⟩ | fail)
  (first | (go_at_call 108; (with_reducible refine (l4Cell_any q1 na c1 ars y.2.1 _ _ y.2.2.1 y.1.2.2 _ HNA.out (HA.out.ext (E02.out.trans (Ext.refl W2).drew)) HOK.out hn4 HWB.out (HSUB.out.ext (E02.out.trans (Ext.refl W2).drew)) HWV.out HWL.out (HI.out.ext (E02.out.trans (Ext.refl W2).drew)) HPT.out).mono ?_); rw [HCV.out]; rintro e w4 ⟨rfl, hE4⟩; have g4 := (Ext.refl W2).drew.trans hE4; have G4 := Lib.hid g4) | (go_at_call 107; (with_reducible refine (l5Eval_any (p.1.length : Int) w4 q1 na c1 ars (some ⟨gm, 0, none⟩) m cm xs _ y.1.2.2 HNA.out (HA.out.ext (E02.out.trans G4.out)) HOK.out hn4 HM.out (HSI.out.ext (E02.out.trans G4.out)) HVS.out (HI.out.ext (E02.out.trans G4.out)) HPT.out 5 y.2.2.2 _ w4 HSH.out (HEXR.out.ext (E02.out.trans G4.out)) (Ext.refl _) HRD.out).mono ?_); rw [HZV.out]; rintro e w5 ⟨rfl, hE5⟩; have g5 := G4.out.trans hE5; have hx5 := (E02.out.trans g5).keep hxc; have hf5 := ((E02.out.trans g5).cells.2 gm C hg2).trans HFZ.out; have hz5 := Nat.lt_of_lt_of_le hg2 (E02.out.trans g5).size_le) | fail)
 have E5 := Lib.hid (E02.out.trans g5)
 clear g4 g5 hE4 hE5 G4 hn1 hn2 hn3 y0 z2 t0 t1 t2 t3 t4 t5 t6 t7 t8 hx5 hf5 hz5
 go_wp2
 have hL := ((E5.out.lv (D := fun _ => False)).trans (lv_set w5 gm C (.int .i64 z)) (E := fun b => b = gm) (fun _ _ h => h.elim) (fun _ _ h => h))
 have hMR := HSET.out w5 E5.out
 rw [← HEX.out] at hMR
 go_end0
 exact ⟨rfl, hMR, gm, rfl, hg1, hg2, hL⟩
end Go.Proofs.YtklehkkclojccaaGreat
