/- The texts G17, joined. No statement is proved here. -/
import Derived.Test.YtggpjapmhakklaaGreatQL37
import Derived.Test.YtggpjapmhakklaaGreatQL36
import Derived.Test.YtggpjapmhakklaaGreatQL26
import Derived.Test.YtggpjapmhakklaaGreatQL22
set_option maxRecDepth 100000
set_option maxHeartbeats 8000000
set_option linter.unusedVariables false
set_option linter.unusedSimpArgs false
namespace Go.Proofs.YtggpjapmhakklaaGreat
open Go.Lib (hid)
open Go.RowKit
def StmR (B : Nat) (w : World) (u0 u1 u2 : Value) (s : St) : Prop := u0 = .string s.1 ∧ s.1.size ≤ 9223372036854775807 ∧ LinsOwn B w u1 s.2.1 ∧ NdR B w u2 s.2.2
def StmsOwn (B : Nat) (w : World) (v : Value) (ss : List St) : Prop :=
 ∃ vs, w.ownsRow B 122 3 v ss.length vs ∧ ∀ i s, ss[i]? = some s → ∃ u0 u1 u2, vs[i * 3]? = some u0 ∧ vs[i * 3 + 1]? = some u1 ∧ vs[i * 3 + 2]? = some u2 ∧ StmR B w u0 u1 u2 s
def PtsO (B : Nat) (w : World) (v : Value) (xss : List (List Int)) : Prop :=
 ∃ vs, w.ownsRow B 27 1 v xss.length vs ∧ ∀ (i : Nat) (xs : List Int), xss[i]? = some xs → ∃ g c, vs[i]? = some (.slice (some ⟨g, 0, none⟩) xs.length c) ∧ IntsOwn B w (.slice (some ⟨g, 0, none⟩) xs.length c) xs
theorem PtsD.o {own : List Nat} {B : Nat} {w : World} {v : Value} {xss : List (List Int)} (h : PtsD own B w v xss) : PtsO B w v xss := by
 obtain ⟨vs, h1, -, h2⟩ := h
 exact ⟨vs, h1, fun i xs hi => by obtain ⟨g, c, a, b, -⟩ := h2 i xs hi; exact ⟨g, c, a, b⟩⟩
theorem PtsO.ext {B : Nat} {w w' : World} {v : Value} {xss : List (List Int)} (h : PtsO B w v xss) (hE : Ext w w') : PtsO B w' v xss := by
 obtain ⟨vs, h1, h2⟩ := h
 exact ⟨vs, ownsRow_ext h1 hE, fun i xs hi => by obtain ⟨g, c, a, b⟩ := h2 i xs hi; exact ⟨g, c, a, b.ext hE⟩⟩
theorem PtsO.weak {B B' : Nat} {w : World} {v : Value} {xss : List (List Int)} (h : PtsO B w v xss) (hB : B' ≤ B) : PtsO B' w v xss := by
 obtain ⟨vs, h1, h2⟩ := h
 exact ⟨vs, ownsRow_weak h1 hB, fun i xs hi => by obtain ⟨g, c, a, b⟩ := h2 i xs hi; exact ⟨g, c, a, b.weak hB⟩⟩
theorem PtsO.tag {B : Nat} {T : TypeId} {w w' : World} {v : Value} {xss : List (List Int)} {row : Option Nat} (h : PtsO B w v xss) (hg : w.grownBy w' row) (ht : Tag w row T) (hT : T ≠ 3) (hT2 : T ≠ 27) : PtsO B w' v xss := by
 obtain ⟨vs, h1, h2⟩ := h
 exact ⟨vs, row_tag h1 hg ht hT2, fun i xs hi => by obtain ⟨g, c, a, b⟩ := h2 i xs hi; exact ⟨g, c, a, b.tag hg ht hT⟩⟩
theorem PtsO.form {B : Nat} {w : World} {v : Value} {xss : List (List Int)} (h : PtsO B w v xss) : ∃ p c, v = .slice p xss.length c := by
 obtain ⟨vs, ho, _⟩ := h
 rcases ho.2 with ⟨rfl, hn⟩ | ⟨g, cap, cur, rfl, _⟩
 ·exact ⟨none, 0, by rw [hn]⟩
 ·exact ⟨_, _, rfl⟩
theorem PtsO.get {B n c i : Nat} {w : World} {p : Option Addr} {xss : List (List Int)} {xs : List Int} (h : PtsO B w (.slice p n c) xss) (hi : xss[i]? = some xs) :
  ∃ o g c', p = some ⟨o, 0, none⟩ ∧ o < w.heap.size ∧ w.cell? ⟨o, i, none⟩ = some (.slice (some ⟨g, 0, none⟩) xs.length c') ∧ IntsOwn B w (.slice (some ⟨g, 0, none⟩) xs.length c') xs := by
 obtain ⟨vs, ho, he⟩ := h
 obtain ⟨g, c', h1, h2⟩ := he i xs hi
 have ho2 := ho.2
 rcases ho2 with ⟨e, h0⟩ | ⟨o, cap, cur, e, _, hg, _⟩
 ·have := (List.getElem?_eq_some_iff.1 hi).1; omega
 ·cases e
  have hc := World.ownsRow.cells ho (g := o) rfl i _ h1
  have hadd : (⟨o, 0, none⟩ : Addr).add i = ⟨o, i, none⟩ := by unfold Addr.add; split <;> simp_all
  rw [hadd] at hc
  exact ⟨o, g, c', rfl, lt_of_block hg, hc, h2⟩
theorem LinsOwn.tag {B : Nat} {T : TypeId} {w w' : World} {v : Value} {xs : List Aff} {row : Option Nat} (h : LinsOwn B w v xs) (hg : w.grownBy w' row) (ht : Tag w row T) (hT : T ≠ 230) : LinsOwn B w' v xs := ⟨row_tag h.1 hg ht hT, h.2⟩
theorem NdR.tag {B : Nat} {T : TypeId} {w w' : World} {v : Value} {e : Ex} {row : Option Nat} (h : NdR B w v e) (hg : w.grownBy w' row) (ht : Tag w row T) (hT : T ≠ 230) : NdR B w' v e := by
 induction h with
 | num n => exact .num n
 | idx a b c d k h => exact .idx a b c d k h
 | read arr s subs h => exact .read arr s subs (h.tag hg ht hT)
 | op kind x y ex ey hk _ _ ihx ihy => exact .op kind x y ex ey hk ihx ihy
theorem StmR.tag {B : Nat} {T : TypeId} {w w' : World} {u0 u1 u2 : Value} {s : St} {row : Option Nat} (h : StmR B w u0 u1 u2 s) (hg : w.grownBy w' row) (ht : Tag w row T) (hT : T ≠ 230) : StmR B w' u0 u1 u2 s := ⟨h.1, h.2.1, h.2.2.1.tag hg ht hT, h.2.2.2.tag hg ht hT⟩
theorem StmR.ext {B : Nat} {w w' : World} {u0 u1 u2 : Value} {s : St} (h : StmR B w u0 u1 u2 s) (hE : Ext w w') : StmR B w' u0 u1 u2 s := ⟨h.1, h.2.1, h.2.2.1.ext hE, h.2.2.2.ext hE⟩
theorem StmsOwn.nil (B : Nat) (w : World) : StmsOwn B w (.slice none 0 0) [] := ⟨[], World.ownsRow_nil w B _ _, fun i s h => by simp at h⟩
theorem StmsOwn.ext {B : Nat} {w w' : World} {v : Value} {ss : List St} (h : StmsOwn B w v ss) (hE : Ext w w') : StmsOwn B w' v ss := by
 obtain ⟨vs, h1, h2⟩ := h
 exact ⟨vs, ownsRow_ext h1 hE, fun i s hi => by obtain ⟨u0, u1, u2, a, b, c, d⟩ := h2 i s hi; exact ⟨u0, u1, u2, a, b, c, d.ext hE⟩⟩
theorem StmsOwn.tag {B : Nat} {T : TypeId} {w w' : World} {v : Value} {ss : List St} {row : Option Nat} (h : StmsOwn B w v ss) (hg : w.grownBy w' row) (ht : Tag w row T) (hT : T ≠ 230) (hT2 : T ≠ 122) : StmsOwn B w' v ss := by
 obtain ⟨vs, h1, h2⟩ := h
 exact ⟨vs, row_tag h1 hg ht hT2, fun i s hi => by obtain ⟨u0, u1, u2, a, b, c, d⟩ := h2 i s hi; exact ⟨u0, u1, u2, a, b, c, d.tag hg ht hT⟩⟩
theorem StmsOwn.weak {B B' : Nat} {w : World} {v : Value} {ss : List St} (h : StmsOwn B w v ss) (hB : B' ≤ B) : StmsOwn B' w v ss := by
 obtain ⟨vs, h1, h2⟩ := h
 exact ⟨vs, ownsRow_weak h1 hB, fun i s hi => by obtain ⟨u0, u1, u2, a, b, c, d⟩ := h2 i s hi; exact ⟨u0, u1, u2, a, b, c, d.1, d.2.1, d.2.2.1.weak hB, d.2.2.2.weak hB⟩⟩
theorem PtsO.len {B n c : Nat} {w : World} {p : Option Addr} {xss : List (List Int)} (h : PtsO B w (.slice p n c) xss) (hn : xss.length = n) : n ≤ 9223372036854775807 := by
 obtain ⟨vs, ho, _⟩ := h
 rcases ho.2 with ⟨e, h0⟩ | ⟨g, cap, cur, e, _, _, h1, h2, _⟩
 ·omega
 ·unfold maxLen at h2; omega
theorem tri_cells {L : Nat} {w : World} {u0 u1 u2 : Value} {t : TypeId} (hL : L = w.heap.size) : ∀ j u, [u0, u1, u2][j]? = some u → (w.alloc (.cells #[u0, u1, u2] t)).cell? ((⟨L, 0, none⟩ : Addr).add j) = some u := by
 subst hL
 intro q u hq
 match q, hq with
 | 0, hq => simp at hq; subst hq; simp [Addr.add]
 | 1, hq => simp at hq; subst hq; simp [Addr.add, go_sem]
 | 2, hq => simp at hq; subst hq; simp [Addr.add, go_sem]
theorem StmsOwn.form {B : Nat} {w : World} {v : Value} {ss : List St} (h : StmsOwn B w v ss) : ∃ p c, v = .slice p ss.length c := by
 obtain ⟨vs, ho, _⟩ := h
 rcases ho.2 with ⟨rfl, hn⟩ | ⟨g, cap, cur, rfl, _⟩
 ·exact ⟨none, 0, by rw [hn]⟩
 ·exact ⟨_, _, rfl⟩
theorem StmsOwn.push {B n : Nat} {w w' : World} {v v' u0 u1 u2 : Value} {ss : List St} {s : St} {vs : List Value} (hn : ss.length = n)
  (he : ∀ i y, ss[i]? = some y → ∃ t0 t1 t2, vs[i * 3]? = some t0 ∧ vs[i * 3 + 1]? = some t1 ∧ vs[i * 3 + 2]? = some t2 ∧ StmR B w t0 t1 t2 y) (hvl : vs.length = n * 3)
  (ho' : w'.ownsRow B 122 3 v' (n + 1) (vs ++ [u0, u1, u2])) (hg : w.grownBy w' v.ownBlock) (ht : Tag w v.ownBlock 122) (hx : StmR B w u0 u1 u2 s) : StmsOwn B w' v' (ss ++ [s]) := by
 refine ⟨vs ++ [u0, u1, u2], by rw [List.length_append, hn]; exact ho', fun i y hi => ?_⟩
 rcases Nat.lt_or_ge i ss.length with hlt | hge
 ·rw [List.getElem?_append_left hlt] at hi
  obtain ⟨t0, t1, t2, h0, h1, h2, h3⟩ := he i y hi
  exact ⟨t0, t1, t2, by rw [List.getElem?_append_left (by omega)]; exact h0, by rw [List.getElem?_append_left (by omega)]; exact h1, by rw [List.getElem?_append_left (by omega)]; exact h2, h3.tag hg ht (by decide)⟩
 ·rw [List.getElem?_append_right hge] at hi
  have hi0 : i - ss.length = 0 := by
   rcases Nat.eq_zero_or_pos (i - ss.length) with h | h
   ·exact h
   ·rw [List.getElem?_eq_none (by simp; omega)] at hi; cases hi
  rw [hi0] at hi
  simp at hi
  subst hi
  have hin : i = n := by omega
  subst hin
  exact ⟨u0, u1, u2, by rw [List.getElem?_append_right (by omega)]; simp [hvl], by rw [List.getElem?_append_right (by omega), hvl]; simp [show i * 3 + 1 - i * 3 = 1 by omega], by rw [List.getElem?_append_right (by omega), hvl]; simp [show i * 3 + 2 - i * 3 = 2 by omega], hx.tag hg ht (by decide)⟩
theorem infoSta : (Tryz.prog.info? 122).map (fun i => (i.zero, i.size, i.bytes)) = some (some (.agg #[.string ⟨#[]⟩, .slice none 0 0, .nilIface]), 3, 56) := by kernel_rfl
def partS (p : Pt) : Bool := nptsB p.1 && (decide (1 ≤ p.2.length ∧ p.2.length ≤ 4) && ((nptsL p.1).all ptB && p.2.all (fun s => validB s.1 s.2.1 s.2.2 p.1.length)))
theorem partOf_any (pl ps : Option Addr) (nl cl ns cs : Nat) (ls : List Lp) (ss : List St) (w : World) (hl : ls.length = nl) (hsn : ss.length = ns) (hls : LoopsAt w (.slice pl nl cl) ls) (hss : StmtsAt w (.slice ps ns cs) ss) :
  Calls Tryz.prog 74 #[.agg #[.slice pl nl cl, .slice ps ns cs]] w fun e w' => (∃ q1 n1 c1 q2 n2 c2, e = .returned (.tuple #[.agg #[.slice q1 n1 c1, .slice q2 n2 c2], .bool (partS (ls, ss))]) ∧ (partS (ls, ss) = true → PtsO w.heap.size w' (.slice q1 n1 c1) (nptsL ls) ∧ StmsOwn w.heap.size w' (.slice q2 n2 c2) ss)) ∧ Ext w w' := by
 have hns : ns ≤ 9223372036854775807 := by obtain ⟨_, _, _, _, hm, _⟩ := hss; rw [← hsn]; exact hm
 have HL := hid hl; have HSN := hid hsn; have HLS := hid hls; have HSS := hid hss
 clear hl hsn hls hss
 generalize hga : w.heap.size = ga at *
 have HGA := hid hga
 go_enter Tryz.func74, Tryz.ntmps74
 go_wp2_with (fail)
 obtain ⟨W0, hW0⟩ : ∃ W0, ((w.alloc (.cells #[.slice pl nl cl, .slice ps ns cs] 91)).alloc (.cells #[.slice none 0 0, .slice none 0 0] 166)) = W0 := ⟨_, rfl⟩
 have E0 : Ext w W0 := by rw [← hW0]; exact ((Ext.refl w).alloc _).alloc _
 have A0 : W0.heap[ga]? = some (.cells #[.slice pl nl cl, .slice ps ns cs] 91 (0, 0)) := by rw [← hW0]; exact blk_old (blk_at HGA.out.symm)
 have A1 : W0.heap[ga + 1]? = some (.cells #[.slice none 0 0, .slice none 0 0] 166 (0, 0)) := by rw [← hW0]; exact blk_at (by simp [HGA.out])
 try rw [hW0]
 have hs0 : W0.heap.size = ga + 2 := by rw [← hW0]; simp [HGA.out]
 clear hW0
 refine (NestPoints_any pl nl cl ls W0 HL.out (HLS.out.ext E0)).mono ?_
 rintro e w1 ⟨⟨v', own, rfl, hpd, -⟩, hE1⟩
 have HPT := hid (hpd.o.weak (B' := ga) (by omega))
 obtain ⟨pp, pc, rfl⟩ := hpd.form
 obtain ⟨np, hnp⟩ : ∃ np, (nptsL ls).length = np := ⟨_, rfl⟩
 rw [hnp] at HPT
 rw [hnp]
 have HNP := hid hnp
 obtain ⟨bn, hbn⟩ : ∃ bn, nptsB ls = bn := ⟨_, rfl⟩
 rw [hbn]
 have HBN := hid hbn
 have E1 := hid (E0.trans hE1); have B0 := hid (hE1.blk A0); have B1 := hid (hE1.blk A1)
 have hs1 : ga + 2 ≤ w1.heap.size := by have := hE1.size_le; omega
 have HS1 := hid hs1
 clear E0 A0 A1 hs0 hE1 hpd hnp hbn hs1
 obtain ⟨y0, y1, -, -⟩ := blk2 B0.out
 cases bn with
 | false =>
  have HRF : Hid (partS (ls, ss) = false) := hid (by simp only [partS]; rw [HBN.out]; rfl)
  have RZ := B1.out
  obtain ⟨z0, z1, zf0, zf1⟩ := blk2 RZ
  have hzl := lt_of_block RZ
  go_wp2
  obtain ⟨WF, hWF⟩ : ∃ WF, ((w1.setCell ⟨ga + 1, 0, none⟩ (.slice none 0 0)).setCell ⟨ga + 1, 1, none⟩ (.slice none 0 0)) = WF := ⟨_, rfl⟩
  have EF : Ext w WF := by rw [← hWF]; exact ((E1.out).setCell (by rw [HGA.out]; exact Nat.le_succ _) _).setCell (by rw [HGA.out]; exact Nat.le_succ _) _
  obtain ⟨f0, f1, -, -⟩ := blk2 (W := WF) (g := ga + 1) (by rw [← hWF]; exact blk2_set RZ)
  rw [hWF]
  exact bodyPost_ret (v := .tuple #[.agg #[.slice none 0 0, .slice none 0 0], .bool false]) (by simp [results, Tryz.results74, go_sem, f0, f1]) rfl ⟨⟨_, _, _, _, _, _, by rw [HRF.out], fun h => (by rw [HRF.out] at h; cases h)⟩, EF⟩
 | true =>
  by_cases h1 : 1 ≤ ns
  ·have hq1 : decide ((ns : Int) < 1) = false := by simp; omega
   by_cases h2 : ns ≤ 4
   ·have hq2 : decide ((4 : Int) < (ns : Int)) = false := by simp; omega
    have hnpb := HPT.out.len HNP.out
    go_wp2
    go_loopw [36] (fun iv wr => ∃ k : Nat, k ≤ np ∧ iv = .int .i64 k ∧ (∀ q ∈ (nptsL ls).take k, ptB q = true) ∧ w1 = wr) (fun iv _ => np - (intOf iv).toNat)
    case atStart => exact ⟨0, by omega, rfl, by simp, rfl⟩
    case round =>
     obtain ⟨k, hk, rfl, hall, rfl⟩ := hrel
     have HAL := hid hall
     clear hall
     by_cases hlt : k < np
     ·obtain ⟨q, hq⟩ := get_some (xs := nptsL ls) (k := k) (by rw [HNP.out]; exact hlt)
      obtain ⟨o, g, c', rfl, hol, cq, hqi⟩ := HPT.out.get hq
      have HQ := hid hq; have HQI := hid hqi.at
      obtain ⟨bq, hbq⟩ : ∃ bq, ptB q = bq := ⟨_, rfl⟩
      have HBQ := hid hbq
      clear hq hqi hbq
      go_wp2_with (fail)
      refine (pointValid_any _ q _ HQI.out).mono ?_
      rw [HBQ.out]
      rintro e w2 ⟨rfl, rfl⟩
      cases bq with
      | false =>
       have HRF : Hid (partS (ls, ss) = false) := hid (by simp only [partS]; rw [all_false_of (p := ptB) HQ.out HBQ.out]; simp)
       have RZ := B1.out
       obtain ⟨z0, z1, zf0, zf1⟩ := blk2 RZ
       have hzl := lt_of_block RZ
       go_wp2
       obtain ⟨WF, hWF⟩ : ∃ WF, ((w1.setCell ⟨ga + 1, 0, none⟩ (.slice none 0 0)).setCell ⟨ga + 1, 1, none⟩ (.slice none 0 0)) = WF := ⟨_, rfl⟩
       have EF : Ext w WF := by rw [← hWF]; exact ((E1.out).setCell (by rw [HGA.out]; exact Nat.le_succ _) _).setCell (by rw [HGA.out]; exact Nat.le_succ _) _
       obtain ⟨f0, f1, -, -⟩ := blk2 (W := WF) (g := ga + 1) (by rw [← hWF]; exact blk2_set RZ)
       rw [hWF]
       exact bodyPost_ret (v := .tuple #[.agg #[.slice none 0 0, .slice none 0 0], .bool false]) (by simp [results, Tryz.results74, go_sem, f0, f1]) rfl ⟨⟨_, _, _, _, _, _, by rw [HRF.out], fun h => (by rw [HRF.out] at h; cases h)⟩, EF⟩
      | true =>
       have HA2 := hid (mem_take_next HQ.out HAL.out HBQ.out)
       go_wp2
       go_roundw
       case rel => exact ⟨k + 1, by omega, by go_num, HA2.out, by trivial⟩
       case measure => simp [intOf]; omega
     ·obtain rfl : k = np := by omega
      have HAP : Hid ((nptsL ls).all ptB = true) := hid (List.all_eq_true.2 (by
       have h := HAL.out
       rw [List.take_of_length_le (by rw [HNP.out]; omega)] at h
       exact h))
      clear HAL
      have hl1 : ga < w1.heap.size := by have := HS1.out; omega
      obtain ⟨y0, y1, -, -⟩ := blk2 B0.out
      go_wp2
      obtain ⟨W2, hW2⟩ : ∃ W2, w1.alloc (.cells #[.slice pp k pc, .slice none 0 0] 166) = W2 := ⟨_, rfl⟩
      have E2 := hid (show Ext w1 W2 by rw [← hW2]; exact (Ext.refl w1).alloc _)
      have X2 := hid (show W2.heap[w1.heap.size]? = some (.cells #[.slice pp k pc, .slice none 0 0] 166 (0, 0)) by rw [← hW2]; exact blk_at rfl)
      have hs2 : W2.heap.size = w1.heap.size + 1 := by rw [← hW2]; simp
      have HS2 := hid hs2
      rw [hW2]
      clear hW2 hs2
      go_loopw [50] (fun iv wr => ∃ (k2 : Nat) (pv : Option Addr) (cv : Nat), k2 ≤ ns ∧ iv = .int .i64 k2 ∧ (∀ s ∈ ss.take k2, validB s.1 s.2.1 s.2.2 nl = true) ∧ wr.heap[w1.heap.size]? = some (.cells #[.slice pp k pc, .slice pv k2 cv] 166 (0, 0)) ∧ StmsOwn (w1.heap.size + 1) wr (.slice pv k2 cv) (ss.take k2) ∧ Ext w1 wr ∧ w1.heap.size + 1 ≤ wr.heap.size) (fun iv _ => ns - (intOf iv).toNat)
      case atStart => exact ⟨0, none, 0, by omega, rfl, by simp, X2.out, by simpa using StmsOwn.nil _ _, E2.out, by have := HS2.out; omega⟩
      case round =>
       obtain ⟨k2, pv, cv, hk2, rfl, hall, hX, hSO, hE, hsz⟩ := hrel
       have HAL := hid hall; have HX := hid hX; have HSO := hid hSO; have HE := hid hE; have HEW := hid (E1.out.trans hE)
       have HB := hid (hE.blk B0.out); have HR := hid (hE.blk B1.out)
       clear hall hX hSO hE
       obtain ⟨b0, b1, -, -⟩ := blk2 HB.out
       have hglr := lt_of_block HB.out
       by_cases hlt : k2 < ns
       ·obtain ⟨s, hs⟩ := get_some (xs := ss) (k := k2) (by rw [HSN.out]; exact hlt)
        obtain ⟨bs, off, q1, d1, q2, d2, q3, d3, q4, d4, rfl, c0, c1, c2, c3, c4, c5, c6, c7, c8, hbl, hst, -⟩ := (HSS.out.ext HEW.out).elem' hs
        have HST := hid hst; have HSX := hid hs
        obtain ⟨bv, hbv⟩ : ∃ bv, validB s.1 s.2.1 s.2.2 nl = bv := ⟨_, rfl⟩
        have HBV := hid hbv
        have hsa : s.1.size ≤ 9223372036854775807 := hst.parts.choose_spec.choose_spec.choose_spec.choose_spec.choose_spec.choose_spec.choose_spec.choose_spec.2.1
        have HSA := hid hsa
        clear hst hs hbv hsa
        go_wp2_with (fail)
        refine (statementOf_any _ s.1 s.2.1 s.2.2 (nl : Int) _ (HST.out.ext ((Ext.refl wr).alloc _))).mono ?_
        rw [HBV.out]
        rintro e w3 ⟨⟨a', p', n', c', nv, rfl, hnv, hval⟩, hE3⟩
        have X3 := hid (((Ext.refl wr).alloc _).trans hE3)
        have hz3 := X3.out.size_le
        have HVAL := hid hval
        clear hE3 hval c0 c1 c2 c3 c4 c5 c6 c7 c8
        cases bv with
        | false =>
         have HRF : Hid (partS (ls, ss) = false) := hid (by simp only [partS]; rw [all_false_of (p := fun s : St => validB s.1 s.2.1 s.2.2 (ls.length : Int)) HSX.out (by rw [HL.out]; exact HBV.out)]; simp)
         have E3 := hid (HEW.out.trans X3.out)
         rcases hnv with rfl | ⟨t, x, rfl⟩
         ·have RZ := X3.out.blk HR.out
          obtain ⟨z0, z1, zf0, zf1⟩ := blk2 RZ
          have hzl := lt_of_block RZ
          have RZ2 := blk_old (o := .cells #[.string a', .slice p' n' c', .nilIface] 122) RZ
          go_wp2
          obtain ⟨WF, hWF⟩ : ∃ WF, (((w3.setCell ⟨ga + 1, 0, none⟩ (.slice none 0 0)).setCell ⟨ga + 1, 1, none⟩ (.slice none 0 0)).alloc (.cells #[.string a', .slice p' n' c', .nilIface] 122)) = WF := ⟨_, rfl⟩
          have EF : Ext w WF := by rw [← hWF]; exact ((E3.out.setCell (by rw [HGA.out]; exact Nat.le_succ _) _).setCell (by rw [HGA.out]; exact Nat.le_succ _) _).alloc _
          obtain ⟨f0, f1, -, -⟩ := blk2 (W := WF) (g := ga + 1) (by rw [← hWF]; exact blk_old (blk2_set RZ))
          rw [hWF]
          exact bodyPost_ret (v := .tuple #[.agg #[.slice none 0 0, .slice none 0 0], .bool false]) (by simp [results, Tryz.results74, go_sem, f0, f1]) rfl ⟨⟨_, _, _, _, _, _, by rw [HRF.out], fun h => (by rw [HRF.out] at h; cases h)⟩, EF⟩
         ·have RZ := X3.out.blk HR.out
          obtain ⟨z0, z1, zf0, zf1⟩ := blk2 RZ
          have hzl := lt_of_block RZ
          have RZ2 := blk_old (o := .cells #[.string a', .slice p' n' c', .iface t x] 122) RZ
          go_wp2
          obtain ⟨WF, hWF⟩ : ∃ WF, (((w3.setCell ⟨ga + 1, 0, none⟩ (.slice none 0 0)).setCell ⟨ga + 1, 1, none⟩ (.slice none 0 0)).alloc (.cells #[.string a', .slice p' n' c', .iface t x] 122)) = WF := ⟨_, rfl⟩
          have EF : Ext w WF := by rw [← hWF]; exact ((E3.out.setCell (by rw [HGA.out]; exact Nat.le_succ _) _).setCell (by rw [HGA.out]; exact Nat.le_succ _) _).alloc _
          obtain ⟨f0, f1, -, -⟩ := blk2 (W := WF) (g := ga + 1) (by rw [← hWF]; exact blk_old (blk2_set RZ))
          rw [hWF]
          exact bodyPost_ret (v := .tuple #[.agg #[.slice none 0 0, .slice none 0 0], .bool false]) (by simp [results, Tryz.results74, go_sem, f0, f1]) rfl ⟨⟨_, _, _, _, _, _, by rw [HRF.out], fun h => (by rw [HRF.out] at h; cases h)⟩, EF⟩
        | true =>
         obtain ⟨ea, hlin, hnd⟩ := HVAL.out rfl
         obtain ⟨t, x, rfl⟩ := hnd.iface
         have EA := hid ea
         have HLI := hid hlin; have HND := hid hnd
         obtain ⟨i0, hi, hz0, hz1, hz2⟩ := info_parts infoSta
         have XB := hid (X3.out.blk HX.out)
         obtain ⟨v0, v1, vf0, vf1⟩ := blk2 XB.out
         have hxl := lt_of_block XB.out
         obtain ⟨vs, ho, he⟩ := HSO.out
         have HTL : Hid ((ss.take k2).length = k2) := hid (by rw [List.length_take, HSN.out]; omega)
         rw [HTL.out] at ho
         have HOW := hid (ownsRow_ext (ownsRow_ext ho X3.out) (((Ext.refl w3).alloc (.cells #[.string a', .slice p' n' c', .iface t x] 122)).alloc (.cells #[.string a', .slice p' n' c', .iface t x] 122)))
         have HEE := hid he
         clear ea hlin hnd hnv ho he
         go_wp2_with (first | (at_builtin; refine wpList_append_own_at _ rfl (.tmp 66) (.tmp 68) 164 rfl (w1.heap.size + 1) 122 i0 (.agg #[.string ⟨#[]⟩, .slice none 0 0, .nilIface]) 3 56 Tryz.underlying164 hi hz0 hz1 hz2 rfl (by decide) (.slice pv k2 cv) k2 vs rfl HOW.out ⟨w3.heap.size + 1, 0, none⟩ 1 1 [.string a', .slice p' n' c', .iface t x] rfl rfl (tri_cells (by simp)) (by intro u hu; simp at hu; rcases hu with rfl | rfl | rfl <;> rfl) (by unfold maxLen; omega) (by omega) (by simp; omega) ?_; intro v' w4 hown4 hgr4 hnil4 hat4; obtain ⟨gq, dq, rfl, hdq⟩ := own_form' hown4 (fun e => by have := (hnil4.1 e).2; omega); have htag := own_tag HOW.out; have XB4 := blk_tag (blk_old (o := .cells #[.string a', .slice p' n' c', .iface t x] 122) (blk_old (o := .cells #[.string a', .slice p' n' c', .iface t x] 122) XB.out)) hgr4 htag (by decide); have u1 := (blk2 XB4).2.1; have uf1 := (blk2 XB4).2.2.2) | fail)
         obtain ⟨Wc, hWc⟩ : ∃ Wc, ((w3.alloc (.cells #[.string a', .slice p' n' c', .iface t x] 122)).alloc (.cells #[.string a', .slice p' n' c', .iface t x] 122)) = Wc := ⟨_, rfl⟩
         have EC : Ext wr Wc := by rw [← hWc]; exact (X3.out.alloc _).alloc _
         have EC3 : Ext w3 Wc := by rw [← hWc]; exact ((Ext.refl w3).alloc _).alloc _
         have HOC := HOW.out
         have hvl := HOC.1
         rw [hWc] at hgr4 htag HOC
         have hres : StmsOwn (w1.heap.size + 1) w4 (.slice (some ⟨gq, 0, none⟩) (k2 + 1) dq) (ss.take (k2 + 1)) := by
          rw [take_next HSX.out]
          refine StmsOwn.push HTL.out (fun i y hi => ?_) hvl hown4 hgr4 htag ⟨by rw [EA.out], HSA.out, (HLI.out.weak (by simp; omega)).ext EC3, (HND.out.weak (by simp; omega)).ext EC3⟩
          obtain ⟨t0, t1, t2, e0, e1, e2, e3⟩ := HEE.out i y hi
          exact ⟨t0, t1, t2, e0, e1, e2, e3.ext EC⟩
         have E4 : Ext w1 w4 := (HE.out.trans EC).grown hgr4 (fun r hr => by have := (HOC.lt r hr).1; omega)
         have hz4 := hgr4.size
         have hzc := EC3.size_le
         have HRS := hid (StmsOwn.tag hres (grown_set w4 w1.heap.size 1 (.slice (some ⟨gq, 0, none⟩) (k2 + 1) dq)) (Tag.blk XB4) (by decide) (by decide))
         have HXX := hid (blk2_set1'' XB4 (.slice (some ⟨gq, 0, none⟩) (k2 + 1) dq))
         have HEX := hid (E4.setCell (p := ⟨w1.heap.size, 1, none⟩) (by simp) (.slice (some ⟨gq, 0, none⟩) (k2 + 1) dq))
         have HA2 := hid (mem_take_next HSX.out HAL.out HBV.out)
         clear hres E4 EC EC3 HOC htag hgr4 hown4 hnil4 hat4 XB4 hWc
         go_wp2
         go_roundw
         case rel => exact ⟨k2 + 1, _, _, by omega, by go_num, HA2.out, HXX.out, HRS.out, HEX.out, by simp; omega⟩
         case measure => simp [intOf]; omega
       ·obtain rfl : k2 = ns := by omega
        have hal : ss.take k2 = ss := List.take_of_length_le (by rw [HSN.out]; omega)
        have HRT : Hid (partS (ls, ss) = true) := hid (by
         have h := HAL.out
         rw [hal] at h
         simp only [partS, HBN.out, HAP.out, Bool.true_and, Bool.and_eq_true, decide_eq_true_eq, List.all_eq_true]
         exact ⟨by rw [HSN.out]; omega, fun s hs => by rw [HL.out]; exact h s hs⟩)
        have HSF : Hid (StmsOwn (w1.heap.size + 1) wr (.slice pv k2 cv) ss) := hid (by have h := HSO.out; rw [hal] at h; exact h)
        have HPF := hid (HPT.out.ext HE.out)
        obtain ⟨x0, x1, -, -⟩ := blk2 HX.out
        obtain ⟨r0, r1, rf0, rf1⟩ := blk2 HR.out
        have hg1 := HS1.out
        clear hal
        go_wp2
        obtain ⟨WF, hWF⟩ : ∃ WF, ((wr.setCell ⟨ga + 1, 0, none⟩ (.slice pp k pc)).setCell ⟨ga + 1, 1, none⟩ (.slice pv k2 cv)) = WF := ⟨_, rfl⟩
        have EF : Ext w WF := by rw [← hWF]; exact (HEW.out.setCell (by rw [HGA.out]; exact Nat.le_succ _) _).setCell (by rw [HGA.out]; exact Nat.le_succ _) _
        have RF : (wr.setCell ⟨ga + 1, 0, none⟩ (.slice pp k pc)).heap[ga + 1]? = some (.cells #[.slice pp k pc, .slice none 0 0] 166 (0, 0)) := by
         have h := heap_setCell_same wr (ga + 1) 0 _ 166 (.slice pp k pc) HR.out
         simpa using h
        have PF : PtsO ga WF (.slice pp k pc) (nptsL ls) := by rw [← hWF]; exact (HPF.out.tag (grown_set wr (ga + 1) 0 _) (Tag.blk HR.out) (by decide) (by decide)).tag (grown_set _ (ga + 1) 1 _) (Tag.blk RF) (by decide) (by decide)
        have SF : StmsOwn ga WF (.slice pv k2 cv) ss := by rw [← hWF]; exact ((HSF.out.tag (grown_set wr (ga + 1) 0 _) (Tag.blk HR.out) (by decide) (by decide)).tag (grown_set _ (ga + 1) 1 _) (Tag.blk RF) (by decide) (by decide)).weak (by omega)
        obtain ⟨f0, f1, -, -⟩ := blk2 (W := WF) (g := ga + 1) (by rw [← hWF]; exact blk2_set HR.out)
        rw [hWF]
        exact bodyPost_ret (v := .tuple #[.agg #[.slice pp k pc, .slice pv k2 cv], .bool true]) (by simp [results, Tryz.results74, go_sem, f0, f1]) rfl ⟨⟨_, _, _, _, _, _, by rw [HRT.out], fun _ => ⟨PF, SF⟩⟩, EF⟩
   ·have hq2 : decide ((4 : Int) < (ns : Int)) = true := by simp; omega
    have HRF : Hid (partS (ls, ss) = false) := hid (by simp only [partS]; rw [decide_eq_false (show ¬ (1 ≤ ss.length ∧ ss.length ≤ 4) by rw [HSN.out]; omega)]; simp)
    have RZ := B1.out
    obtain ⟨z0, z1, zf0, zf1⟩ := blk2 RZ
    have hzl := lt_of_block RZ
    go_wp2
    obtain ⟨WF, hWF⟩ : ∃ WF, ((w1.setCell ⟨ga + 1, 0, none⟩ (.slice none 0 0)).setCell ⟨ga + 1, 1, none⟩ (.slice none 0 0)) = WF := ⟨_, rfl⟩
    have EF : Ext w WF := by rw [← hWF]; exact ((E1.out).setCell (by rw [HGA.out]; exact Nat.le_succ _) _).setCell (by rw [HGA.out]; exact Nat.le_succ _) _
    obtain ⟨f0, f1, -, -⟩ := blk2 (W := WF) (g := ga + 1) (by rw [← hWF]; exact blk2_set RZ)
    rw [hWF]
    exact bodyPost_ret (v := .tuple #[.agg #[.slice none 0 0, .slice none 0 0], .bool false]) (by simp [results, Tryz.results74, go_sem, f0, f1]) rfl ⟨⟨_, _, _, _, _, _, by rw [HRF.out], fun h => (by rw [HRF.out] at h; cases h)⟩, EF⟩
  ·have hq1 : decide ((ns : Int) < 1) = true := by simp; omega
   have HRF : Hid (partS (ls, ss) = false) := hid (by simp only [partS]; rw [decide_eq_false (show ¬ (1 ≤ ss.length ∧ ss.length ≤ 4) by rw [HSN.out]; omega)]; simp)
   have RZ := B1.out
   obtain ⟨z0, z1, zf0, zf1⟩ := blk2 RZ
   have hzl := lt_of_block RZ
   go_wp2
   obtain ⟨WF, hWF⟩ : ∃ WF, ((w1.setCell ⟨ga + 1, 0, none⟩ (.slice none 0 0)).setCell ⟨ga + 1, 1, none⟩ (.slice none 0 0)) = WF := ⟨_, rfl⟩
   have EF : Ext w WF := by rw [← hWF]; exact ((E1.out).setCell (by rw [HGA.out]; exact Nat.le_succ _) _).setCell (by rw [HGA.out]; exact Nat.le_succ _) _
   obtain ⟨f0, f1, -, -⟩ := blk2 (W := WF) (g := ga + 1) (by rw [← hWF]; exact blk2_set RZ)
   rw [hWF]
   exact bodyPost_ret (v := .tuple #[.agg #[.slice none 0 0, .slice none 0 0], .bool false]) (by simp [results, Tryz.results74, go_sem, f0, f1]) rfl ⟨⟨_, _, _, _, _, _, by rw [HRF.out], fun h => (by rw [HRF.out] at h; cases h)⟩, EF⟩
end Go.Proofs.YtggpjapmhakklaaGreat
