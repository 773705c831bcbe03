/- The texts I3 I5, joined. No statement is proved here. -/
import Derived.Test.YtklehkkclojccaaGreatK49
import Derived.Test.YtklehkkclojccaaGreatK21
import Derived.Test.YtklehkkclojccaaGreatK52
import Derived.BigQuiet
import Derived.Deep.QuietTactic
import Derived.Test.YtklehkkclojccaaGreatK47
/- The program's find and InstanceCells. No statement is proved here. -/
namespace Go.Proofs.YtklehkkclojccaaGreat
open Go.RowKit Go.Maps
end Go.Proofs.YtklehkkclojccaaGreat
/- The program's InstanceValue: a machine's value of an event. No statement is proved here. -/
namespace Go.Proofs.YtklehkkclojccaaGreat
open Go.RowKit Go.Maps
theorem FfL.at2 {C : Nat → Prop} {B : Nat} {w1 : World} {mo : Option Nat} {T : Int} {B' : Nat} {W : World} {v : Value} {ss : List St} {j : Nat} {s : St} (h : FfL C B w1 mo T B' W v ss) (hj : ss[j]? = some s) :
  ∃ g c f, v = .slice (some ⟨g, 0, none⟩) ss.length c ∧ g < W.heap.size ∧ W.cell? ⟨g, j, none⟩ = some f ∧ FnR C B w1 mo T W f s.2.2 := by
 obtain ⟨vs, ho, he⟩ := h
 obtain ⟨f, h1, h2⟩ := he j s hj
 have ho2 := ho.2
 rcases ho2 with ⟨e, hz⟩ | ⟨g, cap, cur, e, _, hg, _⟩
 ·have := (List.getElem?_eq_some_iff.1 hj).1; omega
 ·subst e
  have h := World.ownsRow.cells ho (g := g) rfl j f h1
  have hadd : (⟨g, 0, none⟩ : Addr).add j = ⟨g, j, none⟩ := by unfold Addr.add; split <;> simp_all
  rw [hadd] at h
  exact ⟨g, _, f, rfl, lt_of_block hg, h, h2⟩
theorem FsL.at2 {C : Nat → Prop} {B : Nat} {w1 : World} {mo : Option Nat} {T : Int} {B' : Nat} {W : World} {p : Option Addr} {n c : Nat} {ps : List Pt} {i j : Nat} {x : Pt} {s : St} (h : FsL C B w1 mo T B' W (.slice p n c) ps) (hi : ps[i]? = some x) (hj : x.2[j]? = some s) :
  ∃ g g2 c2 f, p = some ⟨g, 0, none⟩ ∧ g < W.heap.size ∧ W.cell? ⟨g, i, none⟩ = some (.slice (some ⟨g2, 0, none⟩) x.2.length c2) ∧ g2 < W.heap.size ∧ W.cell? ⟨g2, j, none⟩ = some f ∧ FnR C B w1 mo T W f s.2.2 := by
 obtain ⟨vs, ho, he⟩ := h
 obtain ⟨r, h1, h2, -⟩ := he i x hi
 obtain ⟨g2, c2, f, rfl, h4, h5, h6⟩ := h2.at2 hj
 have ho2 := ho.2
 rcases ho2 with ⟨e, hz⟩ | ⟨g, cap, cur, e, _, hg, _⟩
 ·have := (List.getElem?_eq_some_iff.1 hi).1; omega
 ·cases e
  have h := World.ownsRow.cells ho (g := g) rfl i _ h1
  have hadd : (⟨g, 0, none⟩ : Addr).add i = ⟨g, i, none⟩ := by unfold Addr.add; split <;> simp_all
  rw [hadd] at h
  exact ⟨g, g2, c2, f, rfl, lt_of_block hg, h, h4, h5, h6⟩
set_option linter.unusedVariables false in
set_option linter.unusedSimpArgs false in
set_option maxRecDepth 100000 in
set_option maxHeartbeats 4000000 in
theorem value_any {L : Nat} {W : World} {v : Value} {ars : List Arr} {ps : List Pt} {xs : List Int} (hM : MachR L W v ars ps xs) (hmb : memB ars ps xs = true) {y : InsM} (hy : y ∈ insM ps) (g d1 : Nat) (r : Option Addr) (nr kk : Nat) (wv : Int) (hpt : IntsAt W (.slice (some ⟨g, 0, none⟩) y.1.2.2.length d1) y.1.2.2) :
  Calls Tryz.prog 112 #[v, .agg #[.int .i64 (y.1.1 : Int), .int .i64 (y.1.2.1 : Int), .slice (some ⟨g, 0, none⟩) y.1.2.2.length d1, .slice r nr kk, .int .i64 wv]] W fun e w' => e = .returned (.int .i64 (evX ars xs y.1.2.2 5 y.2.2.2)) ∧ Ext W w' := by
 obtain ⟨Z, B, M0, Lo, Bm, D, q1, c1, q2, c2, pm, cm, pf, cf, rfl, hom, hmi, hev, hZ, hLM, hZM, hmem, hml, hfs⟩ := hM
 obtain ⟨hvals, hprog, hlen⟩ := memB_parts hmb
 obtain ⟨p, hp1, hp2, hp3⟩ := insM_mem.1 hy
 obtain ⟨hab, -, hpo, -⟩ := progB_inv hprog
 have hpB := hpo p (List.mem_of_getElem? hp1)
 simp only [partB, Bool.and_eq_true, decide_eq_true_eq, List.all_eq_true, stOkB] at hpB
 obtain ⟨hnpB, ⟨hb1, hb4⟩, hall⟩ := hpB
 have hst := hall y.2 (List.mem_of_getElem? hp3)
 have hcell := (hst.2 _ hp2).1
 have hok : ∀ a ∈ ars, arrOkB a = true := by have h := hab; simp only [arrsB, Bool.and_eq_true, List.all_eq_true] at h; exact h.1
 obtain ⟨gf, g2, e2, f, rfl, hgf, k0, hg2, k1, hfn⟩ := hfs.at2 hp1 hp3
 obtain ⟨n, hn⟩ : ∃ n, xs.length = n := ⟨_, rfl⟩
 obtain ⟨np, hnp⟩ : ∃ n, ps.length = n := ⟨_, rfl⟩
 obtain ⟨nb, hnb⟩ : ∃ n, p.2.length = n := ⟨_, rfl⟩
 have HC : Hid (∀ W', Ext W W' → FnC ars (.slice pm n cm) (.slice (some ⟨g, 0, none⟩) y.1.2.2.length d1) xs y.1.2.2 5 f y.2.2.2 W') := Lib.hid (fun W' hW =>
  fn_any (p.1.length : Int) Z D ars pm n cm xs _ y.1.2.2 hab (Ext.refl Z) hmi hom hn hvals (hst.2 _ hp2).2 5 f y.2.2.2 W' (validB_shape hst.1) (rdOk_of hok hcell (by rw [← hlen, hn])) (hZ.trans hW) (hfn.ext hW) (by have h := (hmem.at).ext hW; rwa [hn] at h) (hpt.ext hW))
 obtain ⟨kf, cap, rfl, hent, -⟩ := HC.out W (Ext.refl W)
 have HCC : Hid (∀ W', Ext W W' → Calls Tryz.prog kf (#[.slice pm n cm, .slice (some ⟨g, 0, none⟩) y.1.2.2.length d1] ++ cap) W' fun r W'' => r = .returned (.int .i64 (evX ars xs y.1.2.2 5 y.2.2.2)) ∧ Ext W' W'') := Lib.hid (fun W' hW => by
  obtain ⟨k2, c2, he, -, h2⟩ := HC.out W' hW
  cases he
  exact h2)
 have hen : ∀ (a : Array Value) (w : World), Sem.run Tryz.prog (callFunc kf a) w = .ok (.enter kf a) w := hent
 have hi1 : (y.1.1 : Int) < (np : Int) := by have := (List.getElem?_eq_some_iff.1 hp1).1; omega
 have hj1 : (y.1.2.1 : Int) < (nb : Int) := by have := (List.getElem?_eq_some_iff.1 hp3).1; omega
 rw [hnb] at k0
 rw [hn, hnp]
 obtain ⟨ne, hne⟩ : ∃ n, (evsOf ars ps).length = n := ⟨_, rfl⟩
 obtain ⟨T, hT⟩ : ∃ n, totN ars = n := ⟨_, rfl⟩
 rw [hne, hT]
 obtain ⟨z, hz⟩ : ∃ z, evX ars xs y.1.2.2 5 y.2.2.2 = z := ⟨_, rfl⟩
 rw [hz] at HCC ⊢
 obtain ⟨lp, hlp⟩ : ∃ n, y.1.2.2.length = n := ⟨_, rfl⟩
 rw [hlp] at HCC ⊢
 obtain ⟨ii, hii⟩ : ∃ n, y.1.1 = n := ⟨_, rfl⟩
 obtain ⟨jj, hjj⟩ : ∃ n, y.1.2.1 = n := ⟨_, rfl⟩
 rw [hii] at k0 hi1 ⊢
 rw [hjj] at k1 hj1 ⊢
 clear hom hmi hev hZ hLM hZM hmem hml hfs hmb hvals hprog hlen hp1 hp2 hp3 hab hpo hnpB hb1 hb4 hall hst hcell hok hfn hent HC hnb hnp hn hne hT hz hlp hii hjj hy hpt
 go_enter Tryz.func112, Tryz.ntmps112
 go_wp2
 obtain ⟨W1, hW1⟩ : ∃ W1, ((W.alloc (.cells #[.map (some Bm), .int .i64 T, .slice q1 np c1, .slice q2 ne c2, .slice pm n cm, .slice (some ⟨gf, 0, none⟩) np cf] 87)).alloc (.cells #[.int .i64 (ii : Int), .int .i64 (jj : Int), .slice (some ⟨g, 0, none⟩) lp d1, .slice r nr kk, .int .i64 wv] 76)) = W1 := ⟨_, rfl⟩
 have E1 : Hid (Ext W W1) := Lib.hid (by rw [← hW1]; exact ((Ext.refl W).alloc _).alloc _)
 have A1 := Lib.hid (show W1.heap[W.heap.size]? = some (.cells #[.map (some Bm), .int .i64 T, .slice q1 np c1, .slice q2 ne c2, .slice pm n cm, .slice (some ⟨gf, 0, none⟩) np cf] 87 (0, 0)) by rw [← hW1]; exact blk_old (blk_at rfl))
 have B1 := Lib.hid (show W1.heap[W.heap.size + 1]? = some (.cells #[.int .i64 (ii : Int), .int .i64 (jj : Int), .slice (some ⟨g, 0, none⟩) lp d1, .slice r nr kk, .int .i64 wv] 76 (0, 0)) by rw [← hW1]; exact blk_at (by simp))
 try rw [hW1]
 clear hW1
 obtain ⟨-, -, -, -, a4, a5, -⟩ := blk6 A1.out
 obtain ⟨b0, b1, b2, -⟩ := blk5e B1.out
 replace k0 := E1.out.keep k0
 replace k1 := E1.out.keep k1
 go_region_held3 (fun X => X.cell? ⟨W.heap.size, 4, none⟩ = some (.slice pm n cm) ∧ X.cell? ⟨W.heap.size, 5, none⟩ = some (.slice (some ⟨gf, 0, none⟩) np cf) ∧ X.cell? ⟨W.heap.size + 1, 0, none⟩ = some (.int .i64 (ii : Int)) ∧ X.cell? ⟨W.heap.size + 1, 1, none⟩ = some (.int .i64 (jj : Int)) ∧ X.cell? ⟨W.heap.size + 1, 2, none⟩ = some (.slice (some ⟨g, 0, none⟩) lp d1) ∧ X.cell? ⟨gf, ii, none⟩ = some (.slice (some ⟨g2, 0, none⟩) nb e2) ∧ X.cell? ⟨g2, jj, none⟩ = some (.func (.func kf) #[] cap))
  (first | exact ⟨a4, a5, b0, b1, b2, k0, k1⟩ | exact ⟨g3.keep a4, g3.keep a5, g3.keep b0, g3.keep b1, g3.keep b2, g3.keep k0, g3.keep k1⟩ | fail)
  (first | ((with_reducible refine (HCC.out _ (E1.out.trans (Ext.refl W1).drew)).mono ?_); rintro e w2 ⟨rfl, hE2⟩; have g3 := (Ext.refl W1).drew.trans hE2) | fail)
 have E2 := Lib.hid (E1.out.trans g3)
 clear g3 hE2
 go_wp2
 go_ret
 exact ⟨rfl, E2.out⟩
theorem MachR.ext {L : Nat} {W W' : World} {v : Value} {ars : List Arr} {ps : List Pt} {xs : List Int} (h : MachR L W v ars ps xs) (hE : Ext W W') : MachR L W' v ars ps xs := by
 obtain ⟨Z, B, M0, Lo, Bm, D, q1, c1, q2, c2, pm, cm, pf, cf, hv, hom, hmi, hev, hZ, hLM, hZM, hmem, hml, hfs⟩ := h
 obtain ⟨vs, h1, h2⟩ := hfs
 exact ⟨Z, B, M0, Lo, Bm, D, q1, c1, q2, c2, pm, cm, pf, cf, hv, hom, hmi, hev, hZ.trans hE, hLM, hZM, hmem.ext hE, hml, ⟨vs, ownsRow_ext h1 hE, fun i x hi => by obtain ⟨f, a, b, c⟩ := h2 i x hi; exact ⟨f, a, b.ext hE, c⟩⟩⟩
end Go.Proofs.YtklehkkclojccaaGreat
