/- The texts G25, joined. No statement is proved here. -/
import Derived.Test.YtggpjapmhakklaaGreatQL45
set_option maxRecDepth 100000
set_option maxHeartbeats 8000000
set_option linter.unusedVariables false
set_option linter.unusedSimpArgs false
namespace Go.Proofs.YtggpjapmhakklaaGreat
open Go.Lib (hid)
open Go.RowKit Go.Maps
abbrev Us := List Int × Int
def UsR (B : Nat) (w : World) (u0 u1 : Value) (x : Us) : Prop := IntsOwn B w u0 x.1 ∧ u1 = .int .i64 x.2
def UsesOwn : Nat → World → Value → List Us → Prop := PairsOwn 48 UsR
theorem UsR.grow {B : Nat} {w w' : World} {u0 u1 : Value} {x : Us} {row : Option Nat} (h : UsR B w u0 u1 x) (hg : w.grownBy w' row) (ht : Tag w row 48) : UsR B w' u0 u1 x := ⟨h.1.tag hg ht (by decide), h.2⟩
theorem UsR.ext {B : Nat} {w w' : World} {u0 u1 : Value} {x : Us} (h : UsR B w u0 u1 x) (hE : Ext w w') : UsR B w' u0 u1 x := ⟨h.1.ext hE, h.2⟩
theorem UsesOwn.ext {B : Nat} {w w' : World} {v : Value} {l : List Us} (h : UsesOwn B w v l) (hE : Ext w w') : UsesOwn B w' v l := by
 obtain ⟨cs, ho, he⟩ := h
 exact ⟨cs, ownsRow_ext ho hE, fun i x hi => by obtain ⟨u0, u1, h0, h1, h2⟩ := he i x hi; exact ⟨u0, u1, h0, h1, h2.ext hE⟩⟩
theorem UsesOwn.weak {B B' : Nat} {w : World} {v : Value} {l : List Us} (h : UsesOwn B w v l) (hB : B' ≤ B) : UsesOwn B' w v l := by
 obtain ⟨cs, ho, he⟩ := h
 exact ⟨cs, ownsRow_weak ho hB, fun i x hi => by obtain ⟨u0, u1, h0, h1, h2⟩ := he i x hi; exact ⟨u0, u1, h0, h1, h2.1.weak hB, h2.2⟩⟩
theorem UsesOwn.form {B : Nat} {w : World} {v : Value} {l : List Us} (h : UsesOwn B w v l) : ∃ p c, v = .slice p l.length c := by
 obtain ⟨vs, ho, _⟩ := h
 rcases ho.2 with ⟨rfl, hn⟩ | ⟨g, cap, cur, rfl, _⟩
 ·exact ⟨none, 0, by rw [hn]⟩
 ·exact ⟨_, _, rfl⟩
theorem UsesOwn.elem {B n c i : Nat} {w : World} {p : Option Addr} {l : List Us} {x : Us} (h : UsesOwn B w (.slice p n c) l) (hi : l[i]? = some x) :
  ∃ o r k, p = some ⟨o, 0, none⟩ ∧ o < w.heap.size ∧ w.cell? ⟨o, i * 2, none⟩ = some (.slice r x.1.length k) ∧ w.cell? ⟨o, i * 2 + 1, none⟩ = some (.int .i64 x.2) ∧ IntsOwn B w (.slice r x.1.length k) x.1 := by
 obtain ⟨vs, ho, he⟩ := h
 obtain ⟨u0, u1, a0, a1, hr, rfl⟩ := he i x hi
 obtain ⟨r, k, rfl⟩ : ∃ r k, u0 = .slice r x.1.length k := by
  rcases hr.2 with ⟨rfl, hn⟩ | ⟨g, cap, cur, rfl, _⟩
  ·exact ⟨none, 0, by rw [hn]⟩
  ·exact ⟨_, _, rfl⟩
 have ho2 := ho.2
 rcases ho2 with ⟨e, h0⟩ | ⟨o, cap, cur, e, _, hg, _⟩
 ·have := (List.getElem?_eq_some_iff.1 hi).1; omega
 ·cases e
  have hc := World.ownsRow.cells ho (g := o) rfl
  have c0 := hc _ _ a0; have c1 := hc _ _ a1
  simp only [Addr.add_lit, Nat.zero_add] at c0 c1
  exact ⟨o, r, k, rfl, lt_of_block hg, c0, c1, hr⟩
theorem infoUse : (Tryz.prog.info? 48).map (fun i => (i.zero, i.size, i.bytes)) = some (some (.agg #[.slice none 0 0, .int .i64 0]), 2, 32) := by kernel_rfl
theorem underUse : Tryz.prog.underlying 45 = some (.slice 48) := by kernel_rfl
def useOf (ars : List Arr) (x : InsM) : Us := (readCells ars x.2 x.1.2.2, writeCell ars x.2 x.1.2.2)
def usesM (ars : List Arr) (ps : List Pt) : List Us := (insM ps).map (useOf ars)
theorem usesM_ev (ars : List Arr) (ps : List Pt) : usesM ars ps = (evsOf ars ps).map (·.2) := by simp [usesM, evsOf, useOf, evOf, Function.comp_def]
theorem insM_good {ars : List Arr} {ps : List Pt} (hb : progB ars ps = true) {y : InsM} (hy : y ∈ insM ps) : ∃ p, ps[y.1.1]? = some p ∧ p.2[y.1.2.1]? = some y.2 ∧ y.1.2.2 ∈ nptsL p.1 ∧ nptsB p.1 = true ∧ validB y.2.1 y.2.2.1 y.2.2.2 p.1.length = true ∧ cellsOk ars y.2 y.1.2.2 = true := by
 obtain ⟨p, h1, h2, h3⟩ := insM_mem.1 hy
 have hpb := (progB_inv hb).2.2.1 p (List.mem_of_getElem? h1)
 simp only [partB, Bool.and_eq_true, List.all_eq_true] at hpb
 have hs := hpb.2.2 y.2 (List.mem_of_getElem? h3)
 simp only [stOkB, Bool.and_eq_true, List.all_eq_true] at hs
 exact ⟨p, h1, h3, h2, hpb.1, hs.1, (hs.2 _ h2).1⟩
theorem InssOwn.tag {B : Nat} {T : TypeId} {w w' : World} {v : Value} {l : List In3} {row : Option Nat} (h : InssOwn B w v l) (hg : w.grownBy w' row) (ht : Tag w row T) (hT : T ≠ 3) (hT2 : T ≠ 105) : InssOwn B w' v l := by
 obtain ⟨vs, h1, h2⟩ := h
 exact ⟨vs, row_tag h1 hg ht hT2, fun i x hi => by obtain ⟨u0, u1, u2, a, b, c, e0, e1, d⟩ := h2 i x hi; exact ⟨u0, u1, u2, a, b, c, e0, e1, d.tag hg ht hT⟩⟩
theorem ints_form {B : Nat} {w : World} {v : Value} {xs : List Int} (h : IntsOwn B w v xs) : ∃ p c, v = .slice p xs.length c := by
 rcases h.2 with ⟨rfl, hn⟩ | ⟨g, cap, cur, rfl, _⟩
 ·exact ⟨none, 0, by rw [hn]⟩
 ·exact ⟨_, _, rfl⟩
theorem l6Uses_any (v : Value) (ars : List Arr) (ps : List Pt) (w : World) (hp : PrR w v ars ps) (hb : progB ars ps = true) :
  Calls Tryz.prog 20 #[v] w fun e w' => (∃ q c, e = .returned (.slice q (insM ps).length c) ∧ UsesOwn w.heap.size w' (.slice q (insM ps).length c) (usesM ars ps)) ∧ Ext w w' := by
 obtain ⟨j0, hj0, hj1, hj2, hj3⟩ := info_parts infoUse
 obtain ⟨hab, hp4, hpo, hin⟩ := progB_inv hb
 have hn4' := arrs_len hab
 have HOK : Hid (∀ a ∈ ars, arrOkB a = true) := hid (by have h := hab; simp only [arrsB, Bool.and_eq_true, List.all_eq_true] at h; exact h.1)
 have hM120 := insM_120 hb
 obtain ⟨qa, ca, qp, cp, rfl, hla, hlp, ha, hps⟩ := hp.parts
 obtain ⟨na, hna⟩ : ∃ n, ars.length = n := ⟨_, rfl⟩
 obtain ⟨np, hnp⟩ : ∃ n, ps.length = n := ⟨_, rfl⟩
 obtain ⟨M, hM⟩ : ∃ M, (insM ps).length = M := ⟨_, rfl⟩
 rw [hna] at hla ha hn4'
 rw [hnp] at hps hlp hp4
 rw [hna, hnp] at hp ⊢
 rw [hM] at hM120 ⊢
 have HP := hid hp; have HA := hid ha; have HPS := hid hps; have HNA := hid hna; have HNP := hid hnp; have HB := hid hb; have HM := hid hM
 clear hp ha hps hna hnp hpo hab hb hin hM
 go_enter Tryz.func20, Tryz.ntmps20
 go_wp2_with (fail)
 obtain ⟨W1, hW1⟩ : ∃ W1, w.alloc (.cells #[.slice qa na ca, .slice qp np cp] 32) = W1 := ⟨_, rfl⟩
 have E1 : Hid (Ext w W1) := hid (by rw [← hW1]; exact (Ext.refl w).alloc _)
 have B1 := hid (show W1.heap[w.heap.size]? = some (.cells #[.slice qa na ca, .slice qp np cp] 32 (0, 0)) by rw [← hW1]; exact blk_at rfl)
 have HZ1 : Hid (W1.heap.size = w.heap.size + 1) := hid (by rw [← hW1]; simp)
 obtain ⟨W2, hW2⟩ : ∃ W2, W1.alloc (.cells #[] 48) = W2 := ⟨_, rfl⟩
 have HI0 : Hid (UsesOwn (w.heap.size + 1) W2 (.slice (some ⟨w.heap.size + 1, 0, none⟩) 0 0) []) := hid ⟨[], by have h := World.ownsRow_made (e := 48) (size := 2) W1 #[] 0 (Nat.le_refl _) (Nat.zero_le _) rfl; rw [HZ1.out, hW2] at h; exact h, fun i x h => by simp at h⟩
 have E2 := hid (show Ext W1 W2 by rw [← hW2]; exact (Ext.refl W1).alloc _)
 try rw [hW1]
 try rw [hW2]
 clear hW1 hW2
 refine (l4Instances_any _ ars ps _ (HP.out.ext (E1.out.trans E2.out)) HB.out).mono ?_
 rintro e w3 ⟨⟨q, c, rfl, hio⟩, hE3⟩
 rw [HM.out] at hio ⊢
 have HIO := hid hio; have E3 := hid (E2.out.trans hE3); have HU3 := hid (HI0.out.ext hE3)
 clear hE3 hio
 have B3 := hid (E3.out.blk B1.out)
 go_wp2
 go_loopw [3, 5] (fun ov iv wr => ∃ (k : Nat) (q0 : Option Addr) (m c0 : Nat), k ≤ M ∧ iv = .int .i64 k ∧ ov = .slice q0 m c0 ∧ m = k ∧ UsesOwn (w.heap.size + 1) wr (.slice q0 m c0) ((usesM ars ps).take k) ∧ InssOwn W2.heap.size wr (.slice q M c) ((insM ps).map (·.1)) ∧ Ext W1 wr) (fun _ iv _ => M - (intOf iv).toNat)
 case atStart => exact ⟨0, _, 0, _, by omega, rfl, rfl, rfl, by simpa using HU3.out, HIO.out, E3.out⟩
 case round =>
  obtain ⟨k, q0, m, c0, hk, rfl, rfl, hmk, hu, hio, hE⟩ := hrel
  subst hmk
  clear HIO HU3
  have HU := hid hu; have HIO := hid hio; have HE := hid hE; have HEW := hid (E1.out.trans hE)
  obtain ⟨y0, y1, -, -⟩ := blk2 (hE.blk B1.out)
  clear hu hio hE
  by_cases hkM : m < M
  ·obtain ⟨y, hy⟩ := get_some (xs := insM ps) (k := m) (by rw [HM.out]; exact hkM)
   obtain ⟨x, hx, hst, hpt, hnb, hvb, hck⟩ := insM_good HB.out (List.mem_of_getElem? hy)
   have hpw := (nptsL_W hnb hpt).1
   have HYU : Hid ((usesM ars ps)[m]? = some (useOf ars y)) := hid (by unfold usesM; rw [List.getElem?_map, hy]; rfl)
   obtain ⟨o, r, ri, rfl, hol, i0, i1, i2, hip⟩ := HIO.out.elem (i := m) (x := y.1) (by rw [List.getElem?_map, hy]; rfl)
   obtain ⟨⟨i, j, pt⟩, s⟩ := y
   dsimp only at hx hst hpt hvb hck hpw i0 i1 i2 hip
   obtain ⟨b, off, qn, mn, qb, m2, rfl, -, c1, hbb, -, hss⟩ := (HPS.out.ext HEW.out).elem hx
   obtain ⟨nb, hnbl⟩ : ∃ n, x.2.length = n := ⟨_, rfl⟩
   rw [hnbl] at c1 hss
   obtain ⟨bb, bo, q1, d1, q2, d2, q3, d3, q4, d4, rfl, s0, s1, s2, s3, s4, s5, s6, s7, s8, hbb2, hstr, -⟩ := hss.elem' hst
   have hiI : (i : Int) < (np : Int) := by have := (List.getElem?_eq_some_iff.1 hx).1; have := HNP.out; omega
   have hjI : (j : Int) < (nb : Int) := by have := (List.getElem?_eq_some_iff.1 hst).1; omega
   obtain ⟨pl, hpl⟩ : ∃ n, pt.length = n := ⟨_, rfl⟩
   rw [hpl] at i2 hip
   have HY := hid hy; have HX := hid hx; have HST := hid hst; have HVB := hid hvb; have HCK := hid hck; have HPW := hid hpw; have HIP := hid hip; have HSTR := hid hstr
   have HPL := hid hpl
   obtain ⟨wc, hwc⟩ : ∃ z, writeCell ars s pt = z := ⟨_, rfl⟩
   have HWC := hid hwc
   have hmI : (m : Int) < (M : Int) := by omega
   clear hy hx hst hpt hnb hvb hck hpw hip hstr hss hpl hwc
   go_wp2_with (fail)
   go_region_held3 (fun W => W.cell? ⟨w.heap.size, 0, none⟩ = some (.slice qa na ca) ∧ W.cell? ⟨w.heap.size, 1, none⟩ = some (.slice (some ⟨b, off, none⟩) np cp) ∧ W.cell? ⟨o, m * 3, none⟩ = some (.int .i64 (i : Int)) ∧ W.cell? ⟨o, m * 3 + 1, none⟩ = some (.int .i64 (j : Int)) ∧ W.cell? ⟨o, m * 3 + 2, none⟩ = some (.slice r pl ri) ∧ W.cell? ⟨b, off + i * 2 + 1, none⟩ = some (.slice (some ⟨bb, bo, none⟩) nb m2) ∧ W.cell? ⟨bb, bo + j * 9, none⟩ = some (.string s.1) ∧ W.cell? ⟨bb, bo + j * 9 + 1, none⟩ = some (.slice q1 s.2.1.length d1) ∧ W.cell? ⟨bb, bo + j * 9 + 2, none⟩ = some (.int .i64 s.2.2.kind) ∧ W.cell? ⟨bb, bo + j * 9 + 3, none⟩ = some (.int .i64 s.2.2.num) ∧ W.cell? ⟨bb, bo + j * 9 + 4, none⟩ = some (.slice q2 s.2.2.ix.1.length d2) ∧ W.cell? ⟨bb, bo + j * 9 + 5, none⟩ = some (.int .i64 s.2.2.ix.2) ∧ W.cell? ⟨bb, bo + j * 9 + 6, none⟩ = some (.string s.2.2.arr) ∧ W.cell? ⟨bb, bo + j * 9 + 7, none⟩ = some (.slice q3 s.2.2.subs.length d3) ∧ W.cell? ⟨bb, bo + j * 9 + 8, none⟩ = some (.slice q4 s.2.2.kids.length d4))
    (first | exact ⟨y0, y1, i0, i1, i2, c1, s0, s1, s2, s3, s4, s5, s6, s7, s8⟩ | exact ⟨g3.keep y0, g3.keep y1, g3.keep i0, g3.keep i1, g3.keep i2, g3.keep c1, g3.keep s0, g3.keep s1, g3.keep s2, g3.keep s3, g3.keep s4, g3.keep s5, g3.keep s6, g3.keep s7, g3.keep s8⟩ | fail)
    (first | (go_at_call 39; (with_reducible refine (l4Cells_any qa na ca ars _ _ s pt (x.1.length : Int) _ HNA.out ((HA.out.ext HEW.out).ext (Ext.refl wr).drew) HOK.out hn4' (HSTR.out.ext (Ext.refl wr).drew) HVB.out (IntsAt.ext (IntsOwn.at HIP.out) (Ext.refl wr).drew) HPW.out).mono ?_); rw [HCK.out, HWC.out]; rintro e w5 ⟨⟨v5, cw5, rfl, hok5, -⟩, hE5⟩; have g3 := (Ext.refl wr).drew.trans hE5) | fail)
   obtain ⟨hcw, hrd⟩ := hok5 (by trivial)
   subst hcw
   obtain ⟨p5, c5, rfl⟩ := ints_form hrd
   obtain ⟨n5, hn5⟩ : ∃ n, (readCells ars s pt).length = n := ⟨_, rfl⟩
   rw [hn5] at hrd ⊢
   have HRD := hid hrd
   have E5 := hid (HE.out.trans g3); have HU5 := hid (HU.out.ext (g3.alloc (.cells #[.slice p5 n5 c5, .int .i64 cw5] 48))); have HIO5 := hid (HIO.out.ext (g3.alloc (.cells #[.slice p5 n5 c5, .int .i64 cw5] 48)))
   have hs5 : w.heap.size + 1 ≤ w5.heap.size := by have := E5.out.size_le; have := HZ1.out; omega
   have hsr : w.heap.size + 1 ≤ wr.drew.heap.size := by have := HE.out.size_le; have := HZ1.out; simp; omega
   obtain ⟨vs, ho, he⟩ := HU5.out
   have hul : ((usesM ars ps).take m).length = m := by rw [List.length_take, show (usesM ars ps).length = M by unfold usesM; rw [List.length_map, HM.out]]; omega
   rw [hul] at ho
   have hvl := ho.1
   have HHE := hid he
   have htag := own_tag ho
   have HUL := hid hul
   clear y0 y1 i0 i1 i2 c1 s0 s1 s2 s3 s4 s5 s6 s7 s8 g3 hrd he hok5 hul hn5
   go_wp2_with (at_builtin; refine wpList_append_own_at _ rfl (.tmp 47) (.tmp 51) 45 rfl (w.heap.size + 1) 48 j0 (.agg #[.slice none 0 0, .int .i64 0]) 2 32 underUse hj0 hj1 hj2 hj3 rfl (by decide) (.slice q0 m c0) m vs rfl ho ⟨w5.heap.size, 0, none⟩ 1 1 [.slice p5 n5 c5, .int .i64 cw5] rfl rfl (pair_cells (by simp)) ?e2 ?e3 ?e4 ?e5 ?_)
   case e2 => intro u hu; simp at hu; rcases hu with rfl | rfl <;> rfl
   case e3 => unfold maxLen; omega
   case e4 => omega
   case e5 => simp; omega
   intro v6 w6 hown6 hgrow6 hnil6 hat6
   obtain ⟨gq, dq, rfl, hdq⟩ := own_form' hown6 (by first | exact hnil6 | exact fun e => by have := (hnil6.1 e).2; omega)
   have hpush := PairsOwn.push (R := UsR) (fun h a b => UsR.grow h a b) HUL.out HHE.out hvl hown6 hgrow6 htag (x := useOf ars ((i, j, pt), s)) ⟨IntsOwn.ext (IntsOwn.weak (show IntsOwn wr.drew.heap.size w5 _ _ from HRD.out) hsr) ((Ext.refl _).alloc _), by rw [← HWC.out]; rfl⟩
   rw [← take_next HYU.out] at hpush
   have HRS : Hid (UsesOwn (w.heap.size + 1) w6 (.slice (some ⟨gq, 0, none⟩) (m + 1) dq) ((usesM ars ps).take (m + 1))) := hid hpush
   have EW := hid ((E5.out.alloc (.cells #[.slice p5 n5 c5, .int .i64 cw5] 48)).grown hgrow6 (fun b hb => by have := (ho.lt b hb).1; have := HZ1.out; omega))
   have HI6 := hid (HIO5.out.tag hgrow6 htag (by decide) (by decide))
   clear hown6 hgrow6 hnil6 hat6 ho htag hs5 hsr hvl hpush
   go_wp2
   go_roundw
   case rel => exact ⟨m + 1, some ⟨gq, 0, none⟩, m + 1, dq, by omega, by go_num, rfl, rfl, HRS.out, HI6.out, EW.out⟩
   case measure => simp [intOf]; omega
  ·obtain rfl : m = M := by omega
   have HR : Hid (UsesOwn w.heap.size wr (.slice q0 m c0) (usesM ars ps)) := hid (by
    have h := HU.out
    rw [List.take_of_length_le (by unfold usesM; rw [List.length_map, HM.out]; omega)] at h
    exact h.weak (Nat.le_succ _))
   go_wp2
   go_ret
   exact ⟨⟨q0, c0, rfl, HR.out⟩, HEW.out⟩
end Go.Proofs.YtggpjapmhakklaaGreat
