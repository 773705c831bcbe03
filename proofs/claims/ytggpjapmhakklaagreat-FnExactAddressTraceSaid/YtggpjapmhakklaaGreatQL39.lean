/- The texts G22, joined. No statement is proved here. -/
import Derived.Test.YtggpjapmhakklaaGreatQL21
set_option maxRecDepth 100000
set_option maxHeartbeats 8000000
set_option linter.unusedVariables false
set_option linter.unusedSimpArgs false
namespace Go.Proofs.YtggpjapmhakklaaGreat
open Go.Lib (hid)
open Go.RowKit
theorem PtsOwn.tag {B : Nat} {T : TypeId} {w w' : World} {v : Value} {xss : List (List Int)} {row : Option Nat} (h : PtsOwn B w v xss) (hg : w.grownBy w' row) (ht : Tag w row T) (hT : T ≠ 3) (hT2 : T ≠ 27) : PtsOwn B w' v xss := by
 obtain ⟨vs, h1, h2⟩ := h
 exact ⟨vs, row_tag h1 hg ht hT2, fun i xs hi => by obtain ⟨u, a, b⟩ := h2 i xs hi; exact ⟨u, a, b.tag hg ht hT⟩⟩
theorem PtsOwn.at2 {B m c i : Nat} {w : World} {p : Option Addr} {xss : List (List Int)} {xs : List Int} (h : PtsOwn B w (.slice p m c) xss) (hi : xss[i]? = some xs) : ∃ g u, p = some ⟨g, 0, none⟩ ∧ w.cell? ⟨g, i, none⟩ = some u ∧ IntsOwn B w u xs := by
 obtain ⟨vs, ho, he⟩ := h
 obtain ⟨u, h0, h1⟩ := he i xs hi
 have ho2 := ho.2
 rcases ho2 with ⟨e, hn⟩ | ⟨g, cap, cur, e, _, hg, _⟩
 ·have := (List.getElem?_eq_some_iff.1 hi).1; omega
 ·cases e
  have hc := World.ownsRow.cells ho (g := g) rfl _ _ h0
  simp only [Addr.add_lit, Nat.zero_add] at hc
  exact ⟨g, u, rfl, hc, h1⟩
theorem Ext.keepA {a b : World} (h : Ext a b) {p : Addr} {u : Value} (hc : a.cell? p = some u) : b.cell? p = some u := (Below.cell h (World.block_lt_of_cell? a p hc)).trans hc
abbrev In3 := Nat × Nat × List Int
def InsC (B : Nat) (w : World) (u0 u1 u2 : Value) (x : In3) : Prop := u0 = .int .i64 (x.1 : Int) ∧ u1 = .int .i64 (x.2.1 : Int) ∧ IntsOwn B w u2 x.2.2
def InssOwn (B : Nat) (w : World) (v : Value) (l : List In3) : Prop :=
 ∃ vs, w.ownsRow B 105 3 v l.length vs ∧ ∀ (i : Nat) (x : In3), l[i]? = some x → ∃ u0 u1 u2, vs[i * 3]? = some u0 ∧ vs[i * 3 + 1]? = some u1 ∧ vs[i * 3 + 2]? = some u2 ∧ InsC B w u0 u1 u2 x
theorem InssOwn.form {B : Nat} {w : World} {v : Value} {l : List In3} (h : InssOwn B w v l) : ∃ p c, v = .slice p l.length c := by
 obtain ⟨vs, ho, _⟩ := h
 rcases ho.2 with ⟨rfl, hn⟩ | ⟨g, cap, cur, rfl, _⟩
 ·exact ⟨none, 0, by rw [hn]⟩
 ·exact ⟨_, _, rfl⟩
theorem InssOwn.ext {B : Nat} {w w' : World} {v : Value} {l : List In3} (h : InssOwn B w v l) (hE : Ext w w') : InssOwn B w' v l := by
 obtain ⟨vs, h1, h2⟩ := h
 exact ⟨vs, ownsRow_ext h1 hE, fun i x hi => by obtain ⟨u0, u1, u2, a, b, c, e0, e1, d⟩ := h2 i x hi; exact ⟨u0, u1, u2, a, b, c, e0, e1, d.ext hE⟩⟩
theorem InssOwn.weak {B B' : Nat} {w : World} {v : Value} {l : List In3} (h : InssOwn B w v l) (hB : B' ≤ B) : InssOwn B' w v l := by
 obtain ⟨vs, h1, h2⟩ := h
 exact ⟨vs, ownsRow_weak h1 hB, fun i x hi => by obtain ⟨u0, u1, u2, a, b, c, e0, e1, d⟩ := h2 i x hi; exact ⟨u0, u1, u2, a, b, c, e0, e1, d.weak hB⟩⟩
theorem InssOwn.push {B n : Nat} {w w' : World} {v v' u0 u1 u2 : Value} {l : List In3} {x : In3} {vs : List Value} (hn : l.length = n)
  (he : ∀ (i : Nat) (x : In3), l[i]? = some x → ∃ u0 u1 u2, vs[i * 3]? = some u0 ∧ vs[i * 3 + 1]? = some u1 ∧ vs[i * 3 + 2]? = some u2 ∧ InsC B w u0 u1 u2 x) (hvl : vs.length = n * 3)
  (ho' : w'.ownsRow B 105 3 v' (n + 1) (vs ++ [u0, u1, u2])) (hg : w.grownBy w' v.ownBlock) (ht : Tag w v.ownBlock 105) (hx : InsC B w u0 u1 u2 x) : InssOwn B w' v' (l ++ [x]) := by
 have tg : ∀ {t0 t1 t2 : Value} {y : In3}, InsC B w t0 t1 t2 y → InsC B w' t0 t1 t2 y := fun h => ⟨h.1, h.2.1, h.2.2.tag hg ht (by decide)⟩
 refine ⟨vs ++ [u0, u1, u2], by rw [List.length_append, hn]; exact ho', fun i y hi => ?_⟩
 rcases Nat.lt_or_ge i l.length with hlt | hge
 ·rw [List.getElem?_append_left hlt] at hi
  obtain ⟨t0, t1, t2, h0, h1, h2, h3⟩ := he i y hi
  exact ⟨t0, t1, t2, by rw [List.getElem?_append_left (by omega)]; exact h0, by rw [List.getElem?_append_left (by omega)]; exact h1, by rw [List.getElem?_append_left (by omega)]; exact h2, tg h3⟩
 ·rw [List.getElem?_append_right hge] at hi
  have hi0 : i - l.length = 0 := by
   rcases Nat.eq_zero_or_pos (i - l.length) with h | h
   ·exact h
   ·rw [List.getElem?_eq_none (by simp; omega)] at hi; cases hi
  rw [hi0] at hi
  simp at hi
  subst hi
  have hin : i = n := by omega
  subst hin
  exact ⟨u0, u1, u2, by rw [List.getElem?_append_right (by omega)]; simp [hvl], by rw [List.getElem?_append_right (by omega), hvl]; simp [show i * 3 + 1 - i * 3 = 1 by omega], by rw [List.getElem?_append_right (by omega), hvl]; simp [show i * 3 + 2 - i * 3 = 2 by omega], tg hx⟩
theorem InssOwn.elem {B n c i : Nat} {w : World} {p : Option Addr} {l : List In3} {x : In3} (h : InssOwn B w (.slice p n c) l) (hi : l[i]? = some x) :
  ∃ o r k, p = some ⟨o, 0, none⟩ ∧ o < w.heap.size ∧ w.cell? ⟨o, i * 3, none⟩ = some (.int .i64 (x.1 : Int)) ∧ w.cell? ⟨o, i * 3 + 1, none⟩ = some (.int .i64 (x.2.1 : Int)) ∧ w.cell? ⟨o, i * 3 + 2, none⟩ = some (.slice r x.2.2.length k) ∧ IntsOwn B w (.slice r x.2.2.length k) x.2.2 := by
 obtain ⟨vs, ho, he⟩ := h
 obtain ⟨u0, u1, u2, a0, a1, a2, rfl, rfl, hr⟩ := he i x hi
 obtain ⟨r, k, rfl⟩ : ∃ r k, u2 = .slice r x.2.2.length k := by
  rcases hr.2 with ⟨rfl, hn⟩ | ⟨g, cap, cur, rfl, _⟩
  ·exact ⟨none, 0, by rw [hn]⟩
  ·exact ⟨_, _, rfl⟩
 have ho2 := ho.2
 rcases ho2 with ⟨e, h0⟩ | ⟨o, cap, cur, e, _, hg, _⟩
 ·have := (List.getElem?_eq_some_iff.1 hi).1; omega
 ·cases e
  have hc := World.ownsRow.cells ho (g := o) rfl
  have c0 := hc _ _ a0; have c1 := hc _ _ a1; have c2 := hc _ _ a2
  simp only [Addr.add_lit, Nat.zero_add] at c0 c1 c2
  exact ⟨o, r, k, rfl, lt_of_block hg, c0, c1, c2, hr⟩
theorem infoIns : (Tryz.prog.info? 105).map (fun i => (i.zero, i.size, i.bytes)) = some (some (.agg #[.int .i64 0, .int .i64 0, .slice none 0 0]), 3, 40) := by kernel_rfl
theorem underIns : Tryz.prog.underlying 70 = some (.slice 105) := by kernel_rfl
def insQ (i : Nat) (pts : List (List Int)) (nb : Nat) : List In3 := (visM pts nb).map (fun x => (i, x.2, x.1))
def insR (i : Nat) (pt : List Int) (s : Nat) : List In3 := (List.range s).map (fun k => (i, k, pt))
theorem insP1_fst (i : Nat) (p : Pt) : (insP1 i p).map (·.1) = insQ i (nptsL p.1) p.2.length := by simp [insP1, insQ, Function.comp_def]
theorem insQ_next {i k nb : Nat} {pts : List (List Int)} {v : List Int} (h : pts[k]? = some v) : insQ i (pts.take (k + 1)) nb = insQ i (pts.take k) nb ++ insR i v nb := by
 rw [take_next h]; simp [insQ, visM, insR, Function.comp_def]
theorem insR_next (i s : Nat) (v : List Int) : insR i v (s + 1) = insR i v s ++ [(i, s, v)] := by simp [insR, List.range_succ]
theorem progB_inv {ars : List Arr} {ps : List Pt} (h : progB ars ps = true) : arrsB ars = true ∧ ps.length ≤ 4 ∧ (∀ p ∈ ps, partB ars p = true) ∧ instN ps ≤ 120 := by
 simp only [progB, Bool.and_eq_true, decide_eq_true_eq, List.all_eq_true] at h
 exact ⟨h.1, h.2.1, h.2.2.1, h.2.2.2⟩
theorem l4Instances_any (v : Value) (ars : List Arr) (ps : List Pt) (w : World) (hp : PrR w v ars ps) (hb : progB ars ps = true) :
  Calls Tryz.prog 30 #[v] w fun e w' => (∃ q c, e = .returned (.slice q (insM ps).length c) ∧ InssOwn w.heap.size w' (.slice q (insM ps).length c) ((insM ps).map (·.1))) ∧ Ext w w' := by
 obtain ⟨i0, hi0, hz0, hz1, hz2⟩ := info_parts infoInt
 obtain ⟨j0, hj0, hj1, hj2, hj3⟩ := info_parts infoIns
 obtain ⟨hab, hp4, hpo, hin⟩ := progB_inv hb
 obtain ⟨qa, ca, qp, cp, rfl, hla, hlp, ha, hps⟩ := hp.parts
 obtain ⟨na, hna⟩ : ∃ n, ars.length = n := ⟨_, rfl⟩
 obtain ⟨np, hnp⟩ : ∃ n, ps.length = n := ⟨_, rfl⟩
 rw [hna] at hla ⊢
 rw [hnp] at hps hlp hp4 ⊢
 have HPS := hid hps; have HNP := hid hnp; have HPO := hid hpo
 obtain ⟨M, hM⟩ : ∃ M, (insM ps).length = M := ⟨_, rfl⟩
 rw [hM]
 have HMM := hid hM
 clear hp ha hps hna hnp hpo hab hb hin hM
 go_enter Tryz.func30, Tryz.ntmps30
 go_wp2
 obtain ⟨W1, hW1⟩ : ∃ W1, w.alloc (.cells #[.slice qa na ca, .slice qp np cp] 32) = W1 := ⟨_, rfl⟩
 have E1 : Hid (Ext w W1) := hid (by rw [← hW1]; exact (Ext.refl w).alloc _)
 have B1 := hid (show W1.heap[w.heap.size]? = some (.cells #[.slice qa na ca, .slice qp np cp] 32 (0, 0)) by rw [← hW1]; exact blk_at rfl)
 have HZ1 : Hid (W1.heap.size = w.heap.size + 1) := hid (by rw [← hW1]; simp)
 have HI0 : Hid (InssOwn (w.heap.size + 1) (W1.alloc (.cells #[] 105)) (.slice (some ⟨w.heap.size + 1, 0, none⟩) 0 0) []) := hid ⟨[], by have h := World.ownsRow_made (e := 105) (size := 3) W1 #[] 0 (Nat.le_refl _) (Nat.zero_le _) rfl; rw [HZ1.out] at h; exact h, fun i x h => by simp at h⟩
 have E1A := hid ((Ext.refl W1).alloc (.cells #[] 105))
 rw [hW1]
 clear hW1
 go_loopw [3, 4] (fun ov iv wr => ∃ (i : Nat) (q : Option Addr) (m c : Nat), i ≤ np ∧ iv = .int .i64 i ∧ ov = .slice q m c ∧ ((insU ps i).map (·.1)).length = m ∧ m ≤ 480 * i ∧ InssOwn (w.heap.size + 1) wr (.slice q m c) ((insU ps i).map (·.1)) ∧ Ext W1 wr) (fun _ iv _ => np - (intOf iv).toNat)
 case atStart => exact ⟨0, some ⟨w.heap.size + 1, 0, none⟩, 0, 0, by omega, rfl, rfl, by simp [insU], by omega, by simpa [insU] using HI0.out, E1A.out⟩
 case round =>
  obtain ⟨i, q, m, c, hi, rfl, rfl, hm, hmb, hio, hE⟩ := hrel
  have HM := hid hm; have HIO := hid hio; have HE := hid hE; have HEW := hid (E1.out.trans hE)
  obtain ⟨y0, y1, -, -⟩ := blk2 (hE.blk B1.out)
  clear hm hio hE
  by_cases hin : i < np
  ·obtain ⟨x, hx⟩ := get_some (xs := ps) (k := i) (by rw [HNP.out]; exact hin)
   have hxo := HPO.out x (List.mem_of_getElem? hx)
   simp only [partB, Bool.and_eq_true, decide_eq_true_eq] at hxo
   obtain ⟨hnb, hbl, -⟩ := hxo
   obtain ⟨b, off, q1, m1, q2, m2, rfl, c0, c1, hbb, hls, hss⟩ := (HPS.out.ext HEW.out).elem hx
   obtain ⟨nl, hnl⟩ : ∃ n, x.1.length = n := ⟨_, rfl⟩
   obtain ⟨nb, hnbl⟩ : ∃ n, x.2.length = n := ⟨_, rfl⟩
   rw [hnl] at hls c0
   rw [hnbl] at hss c1 hbl
   have HX := hid hx; have HLS := hid hls; have HNB := hid hnb; have HNL := hid hnl; have HNBL := hid hnbl
   have HNE := hid (nptsB_nest hnb)
   have hiI : (i : Int) < (np : Int) := by omega
   have HP0 : Hid (PtsOwn wr.heap.size (wr.alloc (.cells #[] 27)) (.slice (some ⟨wr.heap.size, 0, none⟩) 0 0) []) := hid (PtsOwn.made (World.ownsRow_made wr #[] 0 (Nat.le_refl _) (Nat.zero_le _) rfl))
   have hlw : w.heap.size < wr.heap.size := by have := HE.out.size_le; have := HZ1.out; omega
   clear hx hls hss hnb hnl hnbl
   go_wp2_with (fail)
   refine (l2PtsNil wr q1 nl m1 x.1 HNE.out HNL.out HLS.out nl [] _ [] _ rfl rfl PB.nil HP0.out (by simp) ((Ext.refl wr).alloc _)).mono ?_
   rintro e w3 ⟨⟨v', rfl, hpt⟩, hE3, -⟩
   have hpt2 : PtsOwn wr.heap.size w3 v' (nptsL x.1) := by rw [show nptsL x.1 = pts x.1 nl [] [] by simp [nptsL, HNB.out, HNL.out]]; exact hpt
   obtain ⟨pp, cp2, rfl⟩ := hpt2.slice
   obtain ⟨K, hK⟩ : ∃ K, (nptsL x.1).length = K := ⟨_, rfl⟩
   have hK120 : K ≤ 120 := by rw [← hK]; exact nptsL_len
   rw [hK] at hpt2 ⊢
   have HK := hid hK; have HPT := hid hpt2
   have HE3 := hid (HE.out.trans hE3); have HEW3 := hid (HEW.out.trans hE3)
   have HIO3 := hid (HIO.out.ext hE3)
   have HWR := hid HE.out.size_le
   clear hpt hpt2 hK hE3 HP0 y0 y1 c0 c1 hlw
   obtain ⟨BP, hBP⟩ : ∃ BP, wr.heap.size = BP := ⟨_, rfl⟩
   rw [hBP] at HPT
   clear hBP
   go_wp2
   go_loopw [3, 6] (fun ov kv wq => ∃ (k : Nat) (q : Option Addr) (m c : Nat), k ≤ K ∧ kv = .int .i64 k ∧ ov = .slice q m c ∧ ((insU ps i).map (·.1) ++ insQ i ((nptsL x.1).take k) nb).length = m ∧ m ≤ 480 * i + 4 * k ∧ InssOwn (w.heap.size + 1) wq (.slice q m c) ((insU ps i).map (·.1) ++ insQ i ((nptsL x.1).take k) nb) ∧ PtsOwn BP wq (.slice pp K cp2) (nptsL x.1) ∧ Ext W1 wq) (fun _ kv _ => K - (intOf kv).toNat)
   case atStart => exact ⟨0, _, m, _, by omega, rfl, rfl, by rw [← HM.out]; simp [insQ, visM], by omega, by simpa [insQ, visM] using HIO3.out, HPT.out, HE3.out⟩
   case round =>
    obtain ⟨k, q, m, c, hk, rfl, rfl, hm, hmb, hio, hpt, hE⟩ := hrel
    clear HM HIO HPT
    have HM := hid hm; have HIO := hid hio; have HPT := hid hpt; have HEQ := hid hE
    clear hm hio hpt hE
    by_cases hkn : k < K
    ·obtain ⟨pt, hpt⟩ := get_some (xs := nptsL x.1) (k := k) (by rw [HK.out]; exact hkn)
     have HPX := hid hpt
     clear hpt
     go_wp2
     go_loopw [3, 7] (fun ov sv wt => ∃ (s : Nat) (q : Option Addr) (m c : Nat), s ≤ nb ∧ sv = .int .i64 s ∧ ov = .slice q m c ∧ ((insU ps i).map (·.1) ++ insQ i ((nptsL x.1).take k) nb ++ insR i pt s).length = m ∧ m ≤ 480 * i + 4 * k + s ∧ InssOwn (w.heap.size + 1) wt (.slice q m c) ((insU ps i).map (·.1) ++ insQ i ((nptsL x.1).take k) nb ++ insR i pt s) ∧ PtsOwn BP wt (.slice pp K cp2) (nptsL x.1) ∧ Ext W1 wt) (fun _ sv _ => nb - (intOf sv).toNat)
     case atStart => exact ⟨0, _, m, _, by omega, rfl, rfl, by rw [← HM.out]; simp [insR], by omega, by simpa [insR] using HIO.out, HPT.out, HEQ.out⟩
     case round =>
      obtain ⟨s, q, m, c, hs, rfl, rfl, hm, hmb, hio, hpt, hE⟩ := hrel
      clear HM HIO HPT HEQ
      have HM := hid hm; have HIO := hid hio; have HPT := hid hpt; have HET := hid hE; have HEW := hid hE
      have HSW : Hid (w.heap.size + 1 ≤ wr.heap.size) := hid (by rw [← HZ1.out]; exact hE.size_le)
      obtain ⟨y0, y1, -, -⟩ := blk2 (hE.blk B1.out)
      obtain ⟨b', off', q1', m1', q2', m2', hbe, c0, c1, hbb', -, -⟩ := (HPS.out.ext (E1.out.trans hE)).elem HX.out
      obtain ⟨rfl, rfl⟩ : b = b' ∧ off = off' := by cases hbe; exact ⟨rfl, rfl⟩
      rw [HNBL.out] at c1
      clear hm hio hpt hE hbe
      by_cases hsn : s < nb
      ·obtain ⟨gp, u, rfl, cu, hu⟩ := HPT.out.at2 HPX.out
       have hgp : gp < wr.heap.size := World.block_lt_of_cell? _ _ cu
       obtain ⟨Lp, hLp⟩ : ∃ L, pt.length = L := ⟨_, rfl⟩
       have HLP := hid hLp
       rcases hu.2 with ⟨rfl, hn⟩ | ⟨g, cap, cur, rfl, -, -, hcap, hmx, -⟩
       ·have HPN : Hid (pt = []) := hid (List.eq_nil_of_length_eq_zero hn)
        clear hu hn hLp
        have HRW := hid ((show IntsOwn wr.heap.size (wr.alloc (.cells #[] 3)) (.slice (some ⟨wr.heap.size, 0, none⟩) 0 0) pt by rw [HPN.out]; exact IntsOwn.mk (World.ownsRow_made wr #[] 0 (Nat.le_refl _) (Nat.zero_le _) rfl) rfl))
        have E5 := hid ((Ext.refl wr).alloc (.cells #[] 3))
        have HIO5 := hid (HIO.out.ext (E5.out.alloc (.cells #[.int .i64 (i : Int), .int .i64 (s : Int), .slice (some ⟨wr.heap.size, 0, none⟩) 0 0] 105)))
        obtain ⟨vs, ho, he⟩ := HIO5.out
        rw [HM.out] at ho
        have hvl := ho.1
        have HHE := hid he
        have htag := own_tag ho
        have hsw := HSW.out
        have hsz5 := E5.out.size_le
        clear he
        go_wp2_with (at_builtin; refine wpList_append_own_at _ rfl (.tmp 41) (.tmp 51) 70 rfl (w.heap.size + 1) 105 j0 (.agg #[.int .i64 0, .int .i64 0, .slice none 0 0]) 3 40 underIns hj0 hj1 hj2 hj3 rfl (by decide) (.slice q m c) m vs rfl ho ⟨wr.heap.size + 1, 0, none⟩ 1 1 [.int .i64 (i : Int), .int .i64 (s : Int), .slice (some ⟨wr.heap.size, 0, none⟩) 0 0] rfl rfl (tri_cells (by simp)) ?e2 ?e3 ?e4 ?e5 ?_)
        case e2 => intro u hu; simp at hu; rcases hu with rfl | rfl | rfl <;> rfl
        case e3 => unfold maxLen; omega
        case e4 => omega
        case e5 => simp at hsz5 ⊢; omega
        intro v2 w6 hown2 hgrow2 hnil2 hat2
        obtain ⟨gq, dq, rfl, hdq⟩ := own_form' hown2 (by first | exact hnil2 | exact fun e => by have := (hnil2.1 e).2; omega)
        have HRS := hid (InssOwn.push (x := (i, s, pt)) HM.out HHE.out hvl hown2 hgrow2 htag ⟨rfl, rfl, IntsOwn.ext (IntsOwn.weak (show IntsOwn wr.heap.size _ _ _ from HRW.out) hsw) ((Ext.refl _).alloc _)⟩)
        have EW := hid ((HET.out.trans (E5.out.alloc (.cells #[.int .i64 (i : Int), .int .i64 (s : Int), .slice (some ⟨wr.heap.size, 0, none⟩) 0 0] 105))).grown hgrow2 (fun b hb => by have := (ho.lt b hb).1; have := HZ1.out; omega))
        have HP6 := hid (PtsOwn.tag (HPT.out.ext (E5.out.alloc (.cells #[.int .i64 (i : Int), .int .i64 (s : Int), .slice (some ⟨wr.heap.size, 0, none⟩) 0 0] 105))) hgrow2 htag (by decide) (by decide))
        have HLE : Hid (((insU ps i).map (·.1) ++ insQ i ((nptsL x.1).take k) nb ++ insR i pt (s + 1)).length = m + 1) := hid (by rw [insR_next, ← List.append_assoc, List.length_append, HM.out]; rfl)
        have HRS2 : Hid (InssOwn (w.heap.size + 1) w6 (.slice (some ⟨gq, 0, none⟩) (m + 1) dq) ((insU ps i).map (·.1) ++ insQ i ((nptsL x.1).take k) nb ++ insR i pt (s + 1))) := hid (by rw [insR_next, ← List.append_assoc]; exact HRS.out)
        clear hown2 hgrow2 hnil2 hat2 ho htag hsz5 hsw hvl HRS y0 y1 c0 c1 cu
        go_wp2
        go_roundw
        case rel => exact ⟨s + 1, some ⟨gq, 0, none⟩, m + 1, dq, by omega, by go_num, rfl, HLE.out, by omega, HRS2.out, HP6.out, EW.out⟩
        case measure => simp [intOf]; omega
       ·rw [hLp] at hu cu hcap
        have HU := hid hu
        have hLp4 : Lp ≤ 4 := by
         have h1 := ((nptsL_iff HNB.out pt).1 (List.mem_of_getElem? HPX.out)).1
         have h2 := (nestB_iff.1 HNE.out).1
         omega
        have HQ0 : Hid ((wr.alloc (.cells #[] 3)).ownsRow wr.heap.size 3 1 (.slice (some ⟨wr.heap.size, 0, none⟩) 0 0) 0 []) := hid (World.ownsRow_made wr #[] 0 (Nat.le_refl _) (Nat.zero_le _) rfl)
        have HCell : Hid (∀ j u, (pt.map (Value.int .i64))[j]? = some u → (wr.alloc (.cells #[] 3)).cell? ((⟨g, 0, none⟩ : Addr).add j) = some u) := hid (fun j u hj => ((Ext.refl wr).alloc _).keepA (World.ownsRow.cells HU.out (g := g) rfl j u hj))
        clear hu hLp hcap
        go_wp2_with (at_builtin; refine wpList_append_own_at _ rfl (.tmp 44) (.tmp 48) 27 rfl wr.heap.size 3 i0 (.int .i64 0) 1 8 Tryz.underlying27 hi0 hz0 hz1 hz2 rfl (by decide) (.slice (some ⟨wr.heap.size, 0, none⟩) 0 0) 0 [] rfl HQ0.out ⟨g, 0, none⟩ Lp cap (pt.map (Value.int .i64)) rfl (by rw [List.length_map, HLP.out, Nat.mul_one]) HCell.out ?c2 ?c3 ?c4 ?c5 ?_)
        case c2 => intro u hu; simp only [List.mem_map] at hu; obtain ⟨y, -, rfl⟩ := hu; rfl
        case c3 => unfold maxLen; omega
        case c4 => omega
        case c5 => simp
        intro v1 w4 hown1 hgrow1 hnil1 hat1
        have hne1 : v1 ≠ .slice none 0 0 := by intro e; have := hnil1; simp [e] at this
        have HO4 : Hid (w4.ownsRow wr.heap.size 3 1 v1 Lp (pt.map (Value.int .i64))) := hid (by simpa using hown1)
        obtain ⟨g1, c1', rfl, hc1⟩ := own_form' HO4.out hne1
        have E4 := hid (((Ext.refl wr).alloc (.cells #[] 3)).grown hgrow1 (fun b hb => by have hb' : wr.heap.size = b := Option.some.inj hb; omega))
        clear hown1 hgrow1 hnil1 hat1 hne1 hc1
        have HRW := hid ((IntsOwn.mk HO4.out HLP.out))
        have E5 := hid (E4.out)
        have HIO5 := hid (HIO.out.ext (E5.out.alloc (.cells #[.int .i64 (i : Int), .int .i64 (s : Int), .slice (some ⟨g1, 0, none⟩) Lp c1'] 105)))
        obtain ⟨vs, ho, he⟩ := HIO5.out
        rw [HM.out] at ho
        have hvl := ho.1
        have HHE := hid he
        have htag := own_tag ho
        have hsw := HSW.out
        have hsz5 := E5.out.size_le
        clear he
        go_wp2_with (at_builtin; refine wpList_append_own_at _ rfl (.tmp 41) (.tmp 51) 70 rfl (w.heap.size + 1) 105 j0 (.agg #[.int .i64 0, .int .i64 0, .slice none 0 0]) 3 40 underIns hj0 hj1 hj2 hj3 rfl (by decide) (.slice q m c) m vs rfl ho ⟨w4.heap.size, 0, none⟩ 1 1 [.int .i64 (i : Int), .int .i64 (s : Int), .slice (some ⟨g1, 0, none⟩) Lp c1'] rfl rfl (tri_cells (by simp)) ?e2 ?e3 ?e4 ?e5 ?_)
        case e2 => intro u hu; simp at hu; rcases hu with rfl | rfl | rfl <;> rfl
        case e3 => unfold maxLen; omega
        case e4 => omega
        case e5 => simp at hsz5 ⊢; omega
        intro v2 w6 hown2 hgrow2 hnil2 hat2
        obtain ⟨gq, dq, rfl, hdq⟩ := own_form' hown2 (by first | exact hnil2 | exact fun e => by have := (hnil2.1 e).2; omega)
        have HRS := hid (InssOwn.push (x := (i, s, pt)) HM.out HHE.out hvl hown2 hgrow2 htag ⟨rfl, rfl, IntsOwn.ext (IntsOwn.weak (show IntsOwn wr.heap.size _ _ _ from HRW.out) hsw) ((Ext.refl _).alloc _)⟩)
        have EW := hid ((HET.out.trans (E5.out.alloc (.cells #[.int .i64 (i : Int), .int .i64 (s : Int), .slice (some ⟨g1, 0, none⟩) Lp c1'] 105))).grown hgrow2 (fun b hb => by have := (ho.lt b hb).1; have := HZ1.out; omega))
        have HP6 := hid (PtsOwn.tag (HPT.out.ext (E5.out.alloc (.cells #[.int .i64 (i : Int), .int .i64 (s : Int), .slice (some ⟨g1, 0, none⟩) Lp c1'] 105))) hgrow2 htag (by decide) (by decide))
        have HLE : Hid (((insU ps i).map (·.1) ++ insQ i ((nptsL x.1).take k) nb ++ insR i pt (s + 1)).length = m + 1) := hid (by rw [insR_next, ← List.append_assoc, List.length_append, HM.out]; rfl)
        have HRS2 : Hid (InssOwn (w.heap.size + 1) w6 (.slice (some ⟨gq, 0, none⟩) (m + 1) dq) ((insU ps i).map (·.1) ++ insQ i ((nptsL x.1).take k) nb ++ insR i pt (s + 1))) := hid (by rw [insR_next, ← List.append_assoc]; exact HRS.out)
        clear hown2 hgrow2 hnil2 hat2 ho htag hsz5 hsw hvl HRS y0 y1 c0 c1 cu
        go_wp2
        go_roundw
        case rel => exact ⟨s + 1, some ⟨gq, 0, none⟩, m + 1, dq, by omega, by go_num, rfl, HLE.out, by omega, HRS2.out, HP6.out, EW.out⟩
        case measure => simp [intOf]; omega
      ·obtain rfl : s = nb := by omega
       have HNX : Hid (insQ i ((nptsL x.1).take (k + 1)) s = insQ i ((nptsL x.1).take k) s ++ insR i pt s) := hid (insQ_next HPX.out)
       have HIO2 : Hid (InssOwn (w.heap.size + 1) wr (.slice q m c) ((insU ps i).map (·.1) ++ insQ i ((nptsL x.1).take (k + 1)) s)) := hid (by rw [HNX.out, ← List.append_assoc]; exact HIO.out)
       have HM2 : Hid (((insU ps i).map (·.1) ++ insQ i ((nptsL x.1).take (k + 1)) s).length = m) := hid (by rw [HNX.out, ← List.append_assoc]; exact HM.out)
       go_wp2
       go_roundw
       case rel => exact ⟨k + 1, q, m, c, by omega, by go_num, rfl, HM2.out, by omega, HIO2.out, HPT.out, HET.out⟩
       case measure => simp [intOf]; omega
    ·obtain rfl : k = K := by omega
     have HNX : Hid ((insU ps (i + 1)).map (·.1) = (insU ps i).map (·.1) ++ insQ i ((nptsL x.1).take k) nb) := hid (by rw [insU_next HX.out, List.map_append, insP1_fst, HNBL.out, List.take_of_length_le (by rw [HK.out]; omega)])
     have HIO2 : Hid (InssOwn (w.heap.size + 1) wr (.slice q m c) ((insU ps (i + 1)).map (·.1))) := hid (by rw [HNX.out]; exact HIO.out)
     have HM2 : Hid (((insU ps (i + 1)).map (·.1)).length = m) := hid (by rw [HNX.out]; exact HM.out)
     go_wp2
     go_roundw
     case rel => exact ⟨i + 1, q, m, c, by omega, by go_num, rfl, HM2.out, by omega, HIO2.out, HEQ.out⟩
     case measure => simp [intOf]; omega
  ·obtain rfl : i = np := by omega
   have HI : Hid ((insU ps i).map (·.1) = (insM ps).map (·.1)) := hid (by unfold insM; rw [HNP.out])
   have HL : Hid ((insM ps).length = m) := hid (by have h := HM.out; rw [HI.out, List.length_map] at h; exact h)
   have HR : Hid (InssOwn w.heap.size wr (.slice q m c) ((insM ps).map (·.1))) := hid (by rw [← HI.out]; exact HIO.out.weak (Nat.le_succ _))
   obtain rfl : m = M := by rw [← HMM.out, HL.out]
   go_wp2
   go_ret
   exact ⟨⟨q, c, rfl, HR.out⟩, HEW.out⟩
end Go.Proofs.YtggpjapmhakklaaGreat
