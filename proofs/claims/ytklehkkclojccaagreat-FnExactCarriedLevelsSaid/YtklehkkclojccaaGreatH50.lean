/- The texts G39 G41 G69 G70, joined. No statement is proved here. -/
import Derived.Test.YtklehkkclojccaaGreatH29
import Derived.Test.YtklehkkclojccaaGreatH49
import Derived.Test.YtklehkkclojccaaGreatH47
import Derived.Test.YtklehkkclojccaaGreatH48
import Derived.Test.YtklehkkclojccaaGreatH02
import Derived.Test.YtklehkkclojccaaGreatH43
namespace Go.Proofs.YtklehkkclojccaaGreat
open Go.Lib (hid)
open Go.RowKit Go.Maps
attribute [local go_sem] Oper.semAt_some
def CoI (W1 : World) (RB : Nat) (s : List D3) (own : List Nat) (X : World) : Prop :=
 ∃ row p n c, own = RB :: row ∧ (∀ b ∈ row, W1.heap.size ≤ b) ∧ Lv (fun k => k = RB) W1 X ∧ X.heap[RB]? = some (.cells #[.slice p n c] 96 (0, 0)) ∧ s.length = n ∧
  X.ownsRow W1.heap.size 191 3 (.slice p n c) n (flatD s) ∧ (∀ b, (Value.slice p n c).ownBlock = some b → b ∈ row)
theorem CoI.stable (W1 : World) (RB : Nat) : StableB W1.heap.size (CoI W1 RB) := by
 rintro s own X X' ⟨row, p, n, c, rfl, h1, h2, h3, h4, h5, h6⟩ hv
 exact ⟨row, p, n, c, rfl, h1, h2.trans hv (fun _ _ h => h) (fun b hb h => by omega), hv.heap h3 (fun h => h.1 (by simp)), h4, row_lv h5 hv (fun b hb h => h.1 (by simp [h6 b hb])), h6⟩
theorem dl_len (K : Nat → Nat → Int) (M : Nat) (h : M ≤ 120) : (dpOf K (prTo M M)).length ≤ 20000 := by
 rw [dpOf_all]
 have h1 := depsTo_len K M M
 have h3 : M * M ≤ 120 * 120 := Nat.mul_le_mul h h
 omega
end Go.Proofs.YtklehkkclojccaaGreat
namespace Go.Proofs.YtklehkkclojccaaGreat
open Go.Lib (hid)
open Go.RowKit Go.Maps
theorem evs_uses (ars : List Arr) (ps : List Pt) : kEv (evsOf ars ps) = kOf (usesM ars ps) := by rw [usesM_ev]; rfl
theorem dl_deps {ars : List Arr} {ps : List Pt} (hb : progB ars ps = true) : dpOf (kEv (evsOf ars ps)) (prTo (cntB ars ps) (cntB ars ps)) = depsB ars ps := by
 rw [dpOf_all, evs_uses]
 unfold cntB depsB
 rw [if_pos hb, if_pos hb]
theorem evs_cnt {ars : List Arr} {ps : List Pt} (hb : progB ars ps = true) : (evsOf ars ps).length = cntB ars ps := by
 unfold cntB
 rw [if_pos hb]
 simp [evsOf]
end Go.Proofs.YtklehkkclojccaaGreat
namespace Go.Proofs.YtklehkkclojccaaGreat
open Go.Lib (hid)
open Go.RowKit Go.Maps
attribute [local go_sem] Oper.semAt_some
def blkOf (v : Value) : Nat := v.ownBlock.getD 0
def DiI (W4 : World) (LB : Nat) (F : List D3 → List (List Int)) (s : List D3) (own : List Nat) (X : World) : Prop :=
 ∃ row p n c, ∃ al : List EA, own = LB :: row ∧ (∀ b ∈ row, W4.heap.size ≤ b) ∧ Lv (fun k => k = LB) W4 X ∧ X.heap[LB]? = some (.cells #[.slice p n c] 46 (0, 0)) ∧ al.length = n ∧ al.map (fun a => a.2) = F s ∧
  X.ownsRow W4.heap.size 39 1 (.slice p n c) n (al.map (fun a => a.1)) ∧ (∀ b, (Value.slice p n c).ownBlock = some b → b ∈ row) ∧ (∀ a ∈ al, ∃ g cg, a.1 = .slice (some ⟨g, 0, none⟩) a.2.length cg ∧ g ∈ row ∧ IntsOwn W4.heap.size X a.1 a.2) ∧ (al.map (fun a => blkOf a.1)).Nodup
theorem DiI.keep {W4 : World} {LB : Nat} {F : List D3 → List (List Int)} {s s' : List D3} {own : List Nat} {X X' : World} (h : DiI W4 LB F s own X) (hF : F s' = F s) (hv : Lv (fun k => k ∉ own ∧ W4.heap.size ≤ k) X X') : DiI W4 LB F s' own X' := by
 obtain ⟨row, p, n, c, al, rfl, h1, h2, h3, h4, h5, h6, h7, h8, h9⟩ := h
 refine ⟨row, p, n, c, al, rfl, h1, h2.trans hv (fun _ _ h => h) (fun b hb h => by have := h.2; omega), hv.heap h3 (fun h => h.1 (by simp)), h4, by rw [hF]; exact h5, row_lv h6 hv (fun b hb h => h.1 (by simp [h7 b hb])), h7, fun a ha => ?_, h9⟩
 obtain ⟨g, cg, e, hg, hi⟩ := h8 a ha
 refine ⟨g, cg, e, hg, row_lv hi hv (fun b hb h => h.1 ?_)⟩
 rw [e] at hb
 simp only [Value.ownBlock, Option.some.injEq] at hb
 subst hb
 simp [hg]
theorem DiI.stable (W4 : World) (LB : Nat) (F : List D3 → List (List Int)) : StableB W4.heap.size (DiI W4 LB F) := fun _ _ _ _ h hv => h.keep rfl hv
theorem types_ne {B B' o g n m c d : Nat} {X : World} {vs : List Value} {xs : List Int} (h : X.ownsRow B 39 1 (.slice (some ⟨o, 0, none⟩) n c) n vs) (hi : IntsOwn B' X (.slice (some ⟨g, 0, none⟩) m d) xs) : g ≠ o := by
 rintro rfl
 rcases h.2 with ⟨e, _⟩ | ⟨g1, cap, cur, e, _, hg, _⟩
 ·cases e
 ·cases e
  rcases hi.2 with ⟨e, _⟩ | ⟨g2, cap2, cur2, e, _, hg2, _⟩
  ·cases e
  ·cases e
   rw [hg] at hg2
   simp at hg2
theorem DiI.step {W4 X A w7 v4 : World} {LB n c gq ly cq gr dr Bq : Nat} {p : Option Addr} {row : List Nat} {al : List EA} {F : List D3 → List (List Int)} {s s' : List D3} {x : List Int}
  (hrow : ∀ b ∈ row, W4.heap.size ≤ b) (hLV : Lv (fun k => k = LB) W4 X) (hLW : LB < W4.heap.size) (hLB : X.heap[LB]? = some (.cells #[.slice p n c] 46 (0, 0))) (han : al.length = n) (has : al.map (fun a => a.2) = F s)
  (hblk : ∀ b, (Value.slice p n c).ownBlock = some b → b ∈ row) (hrows : ∀ a ∈ al, ∃ g cg, a.1 = .slice (some ⟨g, 0, none⟩) a.2.length cg ∧ g ∈ row ∧ IntsOwn W4.heap.size X a.1 a.2) (hnd : (al.map (fun a => blkOf a.1)).Nodup) (hob : ∀ b ∈ LB :: row, b < X.heap.size)
  (hown : X.ownsRow W4.heap.size 39 1 (.slice p n c) n (al.map (fun a => a.1))) (hF : F s' = F s ++ [x]) (hx : x.length = ly) (EXA : Ext X A) (hA : A = v4.alloc (.cells #[.slice (some ⟨gq, 0, none⟩) ly cq] 39)) (hdo : IntsOwn Bq v4 (.slice (some ⟨gq, 0, none⟩) ly cq) x) (hd0 : X.heap.size ≤ gq) (hd1 : gq < A.heap.size) (hBq : Bq = gq ∨ W4.heap.size ≤ Bq)
  (hgr : A.grownBy w7 (Value.slice p n c).ownBlock) (hown7 : w7.ownsRow W4.heap.size 39 1 (.slice (some ⟨gr, 0, none⟩) (n + 1) dr) (n + 1) (al.map (fun a => a.1) ++ [.slice (some ⟨gq, 0, none⟩) ly cq]))
  (hat : (Value.slice (some ⟨gr, 0, none⟩) (n + 1) dr).ownBlock = (Value.slice p n c).ownBlock ∨ (Value.slice (some ⟨gr, 0, none⟩) (n + 1) dr).ownBlock = some A.heap.size) :
  ∃ own', Grew (LB :: row) own' X (w7.setCell ⟨LB, 0, none⟩ (.slice (some ⟨gr, 0, none⟩) (n + 1) dr)) ∧ DiI W4 LB F s' own' (w7.setCell ⟨LB, 0, none⟩ (.slice (some ⟨gr, 0, none⟩) (n + 1) dr)) := by
 have hsX := hLV.size
 have hsA := EXA.size_le
 have hs7 := hgr.size
 have hv7 : Lv (fun k => k ∈ row) X w7 := (EXA.lv (D := fun _ => False)).trans (Lv.grown (D := fun k => k ∈ row) hgr (fun r e _ => hblk r e)) (fun _ _ h => h.elim) (fun _ _ h => h)
 have hset := lv_set w7 LB 0 (.slice (some ⟨gr, 0, none⟩) (n + 1) dr)
 have hvS : Lv (fun k => k ∈ LB :: row) X (w7.setCell ⟨LB, 0, none⟩ (.slice (some ⟨gr, 0, none⟩) (n + 1) dr)) := hv7.trans hset (fun b _ h => by simp [h]) (fun b _ h => by simp [h])
 have hLne : some LB ≠ (Value.slice p n c).ownBlock := fun e => by have := hrow LB (hblk LB e.symm); omega
 have hL7 := grownBy_blk hgr (EXA.blk hLB) hLne
 have hgrr : gr ∈ row ∨ X.heap.size ≤ gr := by
  rcases hat with h | h
  ·exact .inl (hblk gr h.symm)
  ·simp only [Value.ownBlock, Option.some.injEq] at h; exact .inr (by omega)
 have hgrl := (hown7.lt gr rfl).2
 have hgrb := (hown7.lt gr rfl).1
 have hss : (w7.setCell ⟨LB, 0, none⟩ (.slice (some ⟨gr, 0, none⟩) (n + 1) dr)).heap.size = w7.heap.size := by simp
 have hnx : IntsOwn W4.heap.size A (.slice (some ⟨gq, 0, none⟩) ly cq) x := by
  have h1 : IntsOwn Bq A (.slice (some ⟨gq, 0, none⟩) ly cq) x := by rw [hA]; exact hdo.ext ((Ext.refl v4).alloc _)
  rcases hBq with e | e
  ·exact IntsOwn.weak (B := Bq) h1 (by omega)
  ·exact h1.weak e
 have hqn : ∀ b, (Value.slice p n c).ownBlock = some b → b ≠ gq := fun b hb => by have := hob b (by simp [hblk b hb]); omega
 refine ⟨LB :: (row ++ [gq, gr]), ⟨hvS, fun b hb => ?_⟩, row ++ [gq, gr], some ⟨gr, 0, none⟩, n + 1, dr, al ++ [(.slice (some ⟨gq, 0, none⟩) ly cq, x)], rfl, fun b hb => ?_, ?_, blk1_set hL7, by simp [han], by rw [List.map_append, has, hF]; rfl, ?_, fun b hb => ?_, fun a ha => ?_, ?_⟩
 ·simp only [List.mem_cons, List.mem_append, List.not_mem_nil, or_false] at hb
  rw [hss]
  rcases hb with hb | hb | hb | hb
  ·exact ⟨.inl (by simp [hb]), by have := hob b (by simp [hb]); omega⟩
  ·exact ⟨.inl (by simp [hb]), by have := hob b (by simp [hb]); omega⟩
  ·exact ⟨.inr (by omega), by omega⟩
  ·subst hb
   exact ⟨hgrr.imp (fun h => by simp [h]) id, hgrl⟩
 ·simp only [List.mem_append, List.mem_cons, List.not_mem_nil, or_false] at hb
  rcases hb with hb | hb | hb
  ·exact hrow b hb
  ·omega
  ·omega
 ·exact (hLV.trans hv7 (E := fun k => k = LB) (fun _ _ h => h) (fun b hb h => by have := hrow b h; omega)).trans hset (fun _ _ h => h) (fun _ _ h => h)
 ·rw [List.map_append]
  exact row_lv hown7 hset (fun b hb h => by simp only [Value.ownBlock, Option.some.injEq] at hb; omega)
 ·simp only [Value.ownBlock, Option.some.injEq] at hb; simp [hb]
 ·rcases List.mem_append.1 ha with h | h
  ·obtain ⟨g, cg, e, hg, hi⟩ := hrows a h
   refine ⟨g, cg, e, by simp [hg], ?_⟩
   have hne : ∀ b, (Value.slice p n c).ownBlock = some b → b ≠ g := fun b hb e2 => by
    subst e2
    rcases p with _ | ⟨b', o', s'⟩
    ·simp [Value.ownBlock] at hb
    ·have hf := own_form' hown (by simp)
     obtain ⟨gg, dd, e3, -⟩ := hf
     rw [e3] at hb hown
     simp only [Value.ownBlock, Option.some.injEq] at hb
     subst hb
     rw [e] at hi
     exact types_ne hown hi rfl
   have h7 : IntsOwn W4.heap.size w7 a.1 a.2 := row_lv hi ((EXA.lv (D := fun _ => False)).trans (Lv.grown (D := fun k => (Value.slice p n c).ownBlock = some k) hgr (fun r e _ => e)) (E := fun k => (Value.slice p n c).ownBlock = some k) (fun _ _ h => h.elim) (fun _ _ h => h)) (fun b hb hd => by
    rw [e] at hb
    simp only [Value.ownBlock, Option.some.injEq] at hb
    exact hne b hd hb.symm)
   exact row_lv h7 hset (fun b hb hd => by
    rw [e] at hb
    simp only [Value.ownBlock, Option.some.injEq] at hb
    have := hrow g hg; omega)
  ·simp only [List.mem_singleton] at h
   subst h
   refine ⟨gq, cq, by rw [hx], by simp, ?_⟩
   have h7 : IntsOwn W4.heap.size w7 (.slice (some ⟨gq, 0, none⟩) ly cq) x := row_lv hnx (Lv.grown (D := fun k => (Value.slice p n c).ownBlock = some k) hgr (fun r e _ => e)) (fun b hb hd => by
    simp only [Value.ownBlock, Option.some.injEq] at hb
    exact hqn b hd hb.symm)
   exact row_lv h7 hset (fun b hb hd => by simp only [Value.ownBlock, Option.some.injEq] at hb; omega)
 ·rw [List.map_append]
  refine List.nodup_append.2 ⟨hnd, by simp, fun a ha b hb => ?_⟩
  obtain ⟨y, hy, rfl⟩ := List.mem_map.1 ha
  simp [blkOf, Value.ownBlock] at hb
  obtain ⟨g, cg, e, hg, -⟩ := hrows y hy
  have := hob g (by simp [hg])
  rw [e]
  simp only [blkOf, Value.ownBlock, Option.getD_some]
  omega
def dEv (es : List Ev) (z : Int) (d : D3) : Option (List Int) := match es[d.1]?, es[d.2.1]? with
 | some a, some b => if (a.1.1 : Int) = z ∧ (b.1.1 : Int) = z then some (subL b.1.2.2 a.1.2.2) else none
 | _, _ => none
def dsE (es : List Ev) (z : Int) (s : List D3) : List (List Int) := s.filterMap (dEv es z)
theorem dsE_next (es : List Ev) (z : Int) (s : List D3) (d : D3) : dsE es z (s ++ [d]) = dsE es z s ++ (dEv es z d).toList := by
 unfold dsE
 rw [List.filterMap_append]
 cases h : dEv es z d <;> simp [h]
theorem dEv_is {es : List Ev} {z : Int} {d : D3} {a b : Ev} (ha : es[d.1]? = some a) (hb : es[d.2.1]? = some b) : dEv es z d = if (a.1.1 : Int) = z ∧ (b.1.1 : Int) = z then some (subL b.1.2.2 a.1.2.2) else none := by
 unfold dEv; rw [ha, hb]
theorem dEv_ins (ars : List Arr) (ps : List Pt) (z : Int) (d : D3) : dEv (evsOf ars ps) z d = dAt ps z d := by
 unfold dEv dAt evsOf
 rw [List.getElem?_map, List.getElem?_map]
 cases (insM ps)[d.1]? <;> cases (insM ps)[d.2.1]? <;> rfl
theorem ext_set5 {w W : World} (h : Ext w W) {g : Nat} (hg : w.heap.size ≤ g) (a b c d e : Value) : Ext w (((((W.setCell ⟨g, 0, none⟩ a).setCell ⟨g, 1, none⟩ b).setCell ⟨g, 2, none⟩ c).setCell ⟨g, 3, none⟩ d).setCell ⟨g, 4, none⟩ e) :=
 ((((h.setAt hg a).setAt hg b).setAt hg c).setAt hg d).setAt hg e
theorem ptsD_of {B o m c : Nat} {w : World} {cs : List EA} (ho : w.ownsRow B 39 1 (.slice (some ⟨o, 0, none⟩) m c) m (cs.map (fun a => a.1))) (hm : cs.length = m) (hr : ∀ a ∈ cs, ∃ g cg, a.1 = .slice (some ⟨g, 0, none⟩) a.2.length cg ∧ IntsOwn B w a.1 a.2) (hnd : (cs.map (fun a => blkOf a.1)).Nodup) :
  PtsD (o :: cs.map (fun a => blkOf a.1)) B w (.slice (some ⟨o, 0, none⟩) m c) (cs.map (fun a => a.2)) := by
 refine ⟨_, by rw [List.length_map, hm]; exact ho, fun b h => by simp only [Value.ownBlock, Option.some.injEq] at h; simp [h], fun i xs hi => ?_⟩
 rw [List.getElem?_map] at hi
 obtain ⟨a, ha, rfl⟩ := Option.map_eq_some_iff.1 hi
 obtain ⟨g, cg, e, hio⟩ := hr a (List.mem_of_getElem? ha)
 refine ⟨g, cg, by rw [List.getElem?_map, ha, ← e]; rfl, by rw [← e]; exact hio, ?_, fun j g' n' c' hj hvj => ?_⟩
 ·refine List.mem_cons_of_mem _ (List.mem_map.2 ⟨a, List.mem_of_getElem? ha, ?_⟩)
  rw [e]; rfl
 ·rw [List.getElem?_map] at hvj
  obtain ⟨a', ha', e'⟩ := Option.map_eq_some_iff.1 hvj
  intro heq
  have h1 : (cs.map (fun a => blkOf a.1))[j]? = some g := by rw [List.getElem?_map, ha', Option.map_some, e', ← heq]; rfl
  have h2 : (cs.map (fun a => blkOf a.1))[i]? = some g := by rw [List.getElem?_map, ha, Option.map_some, e]; rfl
  obtain ⟨k1, e1⟩ := List.getElem?_eq_some_iff.1 h1
  obtain ⟨k2, e2⟩ := List.getElem?_eq_some_iff.1 h2
  have := (List.pairwise_iff_getElem.1 hnd) j i k1 k2 hj
  exact this (e1.trans e2.symm)
theorem ptsD_weak {own : List Nat} {B B' : Nat} {X : World} {v : Value} {xss : List (List Int)} (h : PtsD own B X v xss) (hB : B' ≤ B) : PtsD own B' X v xss := by
 obtain ⟨vs, ho, hb, he⟩ := h
 exact ⟨vs, ownsRow_weak ho hB, hb, fun i xs hi => by obtain ⟨g, c, h1, h2, h3, h4⟩ := he i xs hi; exact ⟨g, c, h1, h2.weak hB, h3, h4⟩⟩
theorem row_tagne {B n c g : Nat} {p : Option Addr} {t t' : TypeId} {X : World} {vs : List Value} {cs : Array Value} (h : X.ownsRow B t 1 (.slice p n c) n vs) (hg : X.heap[g]? = some (.cells cs t' (0, 0))) (hne : t' ≠ t) : some g ≠ (Value.slice p n c).ownBlock := by
 rcases h.2 with ⟨e, _⟩ | ⟨g1, cap, cur, e, _, hg1, _⟩
 ·rw [e]; simp [Value.ownBlock]
 ·rw [e]
  intro h2
  simp only [Value.ownBlock, Option.some.injEq] at h2
  subst h2
  rw [hg] at hg1
  simp only [Option.some.injEq, Obj.cells.injEq] at hg1
  exact hne hg1.2.1
set_option linter.unusedVariables false in
set_option linter.unusedSimpArgs false in
set_option maxRecDepth 100000 in
set_option maxHeartbeats 8000000 in
theorem distances_any (B : Nat) (es : List Ev) (mo : Option Nat) (T : Int) (q1 q2 : Option Addr) (n1 c1 M c2 : Nat) (z : Int) (w : World) (hM : es.length = M) (hM120 : M ≤ 120) (hev : EvsOwn B w (.slice q2 M c2) es)
  (hes : ∀ a ∈ es, ∀ b ∈ es, a.1.2.2.length ≤ 4 ∧ (∀ x ∈ a.1.2.2, -1000000 ≤ x ∧ x ≤ 1000000) ∧ (∀ x ∈ b.1.2.2, -1000000 ≤ x ∧ x ≤ 1000000) ∧ (a.1.1 = b.1.1 → b.1.2.2.length = a.1.2.2.length)) :
  Calls Tryz.prog 65 #[.agg #[.map mo, .int .i64 T, .slice q1 n1 c1, .slice q2 M c2], .int .i64 z] w fun e w' => (∃ v' own, e = .returned v' ∧ PtsD own w.heap.size w' v' (dstF (dsE es z (dpOf (kEv es) (prTo M M)))) ∧ ∀ b ∈ own, w.heap.size ≤ b ∧ b < w'.heap.size) ∧ Ext w w' := by
 obtain ⟨iS, hSi, hSz, hS1, hS2⟩ := info_parts infoSS
 have HM := hid hM; have HEV := hid hev; have HES := hid hes
 clear hM hev hes
 refine (callsIn_wide (n := 6)).1 ?_
 refine callsIn_of_wp_marks Tryz.func65 rfl trivial ?_ rfl
 simp only [Tryz.ntmps65, List.size_toArray, List.length_cons, List.length_nil, Nat.reduceAdd, Nat.reduceSub, Array.replicate_succ, Array.replicate_zero, List.push_toArray, List.append_toArray, List.nil_append, List.cons_append]
 have hdd : ∀ j : Nat, (Fence.wide.depth.isSome = true → 1 ≤ j) := fun j h => by cases h
 obtain ⟨g0, hg0⟩ : ∃ g0, w.heap.size = g0 := ⟨_, rfl⟩
 gi_wp2_with (fail)
 obtain ⟨W3, hW3⟩ : ∃ W3, (((w.alloc (.cells #[.map mo, .int .i64 T, .slice q1 n1 c1, .slice q2 M c2] 70)).alloc (.cells #[.int .i64 z] 3)).alloc (.cells #[.slice none 0 0] 46)) = W3 := ⟨_, rfl⟩
 have hs3 : W3.heap.size = g0 + 3 := by rw [← hW3, ← hg0]; simp
 have E3 : Hid (Ext w W3) := hid (by rw [← hW3]; exact (((Ext.refl w).alloc _).alloc _).alloc _)
 have K0 : Hid (W3.heap[g0]? = some (.cells #[.map mo, .int .i64 T, .slice q1 n1 c1, .slice q2 M c2] 70 (0, 0))) := hid (by rw [← hW3, ← hg0]; exact blk_old (blk_old (blk_at rfl)))
 have K1 : Hid (W3.heap[g0 + 1]? = some (.cells #[.int .i64 z] 3 (0, 0))) := hid (by rw [← hW3, ← hg0]; exact blk_old (blk_at (by simp)))
 have K2 : Hid (W3.heap[g0 + 1 + 1]? = some (.cells #[.slice none 0 0] 46 (0, 0))) := hid (by rw [← hW3, ← hg0]; exact blk_at (by simp))
 have HG0 := hid hg0; have HS3 := hid hs3
 try rw [hW3]
 try rw [hg0]
 clear hW3 hg0 hs3
 refine ⟨trivial, ?_⟩
 refine (callsIn_wide.2 (dependences_call mo T q1 q2 n1 c1 M c2 W3)).mono ?_
 rintro e w4 ⟨rfl, rfl⟩
 rw [HS3.out]
 obtain ⟨W4, hW4⟩ : ∃ W4, W3.alloc (.cells #[.map mo, .int .i64 T, .slice q1 n1 c1, .slice q2 M c2] 70) = W4 := ⟨_, rfl⟩
 have E34 : Ext W3 W4 := by rw [← hW4]; exact (Ext.refl W3).alloc _
 have HS4 : Hid (W4.heap.size = g0 + 4) := hid (by rw [← hW4]; simp [HS3.out])
 have KP : Hid (W4.heap[g0 + 3]? = some (.cells #[.map mo, .int .i64 T, .slice q1 n1 c1, .slice q2 M c2] 70 (0, 0))) := hid (by rw [← hW4]; exact blk_at HS3.out.symm)
 have J0 := hid (E34.blk K0.out); have J1 := hid (E34.blk K1.out); have J2 := hid (E34.blk K2.out); have E4 := hid (E3.out.trans E34)
 try rw [hW4]
 clear hW4 E34
 gi_wp2_with (fail)
 have hs4 := HS4.out; have hg0 := HG0.out
 refine wpIn_rangeFunc_baseA (w := W4) rfl (hdd _) (gf := 172) (lb := #[.pointer (some ⟨g0 + 3, 0, none⟩)]) rfl trivial (enters_of Tryz.func172 (by kernel_rfl) rfl)
  W4.heap.size (Nat.le_refl _) (dependences_seqZ W4.heap.size _ _ (g0 + 3) B es mo T q1 q2 n1 c1 M c2 w W4 HM.out hM120 HEV.out KP.out E4.out (Nat.le_refl _))
  (fun b h => by omega) (fun b h => h.elim) (fun x Wa Wb _ _ => trivial) (fun Wa Wb _ _ => trivial) (fun _ => rfl)
  (DiI W4 (g0 + 1 + 1) (dsE es z)) (fun _ _ _ _ => False) (DiI.stable _ _ _) (fun cd s own X X' h _ => h) [g0 + 1 + 1]
  (fun b hb => ⟨by simp at hb; omega, fun h => by simp at hb; omega⟩) ⟨[], none, 0, 0, [], rfl, by simp, Lv.refl _ _, J2.out, rfl, rfl, World.ownsRow_nil _ _ _ _, by simp [Value.ownBlock], by simp, by simp⟩
  (fun (d : D3) (a' : Act) (X : World) => ∃ g, X.heap[g]? = some (.cells #[.int .i64 (d.1 : Int), .int .i64 (d.2.1 : Int), .int .i64 d.2.2] 191 (0, 0)) ∧ a' = { tmps := #[.agg #[.map mo, .int .i64 T, .slice q1 n1 c1, .slice q2 M c2], .int .i64 z, .pointer (some ⟨g0, 0, none⟩), .pointer (some ⟨g0 + 1, 0, none⟩), .slice none 0 0, .pointer (some ⟨g0 + 1 + 1, 0, none⟩), .pointer (some ⟨g, 0, none⟩), undef, undef, .agg #[.map mo, .int .i64 T, .slice q1 n1 c1, .slice q2 M c2], .func (.func 172) #[] #[.pointer (some ⟨g0 + 3, 0, none⟩)], .agg #[.int .i64 (d.1 : Int), .int .i64 (d.2.1 : Int), .int .i64 d.2.2], undef, undef, undef, undef, undef, undef, undef, undef, undef, undef, undef, undef, undef, undef, undef, undef, undef, undef, undef, undef, undef, undef, undef, undef, undef, undef, undef, undef, undef, undef, undef, undef, undef, undef, undef, undef, undef, undef], defers := [] })
  ?ast ?assign ?body ?done ?stop
 case ast =>
  rintro x a' W W' l o ⟨g, h4, h5⟩ ho hv
  exact ⟨g, hv.heap h4 (fun e => by subst e; rw [h4] at ho; cases ho), h5⟩
 case assign =>
  intro l2 y X K hy hK
  obtain ⟨di, dk, dn⟩ := y
  dsimp only [encD]
  gi_wp2
  exact hK _ _ (Lv.alloc _ X _) ⟨X.heap.size, blk_at rfl, rfl⟩
 case body =>
  rintro l2 pre0 d ow a' X hdi hpx hrx hob ⟨g, hg, rfl⟩
  obtain ⟨row, p, n, c, al, rfl, hrow, hLV, hLB, han, has, hown, hblk, hrows, hnd⟩ := id hdi
  have hmem : d ∈ dpOf (kEv es) (prTo M M) := List.mem_of_getElem? (pre_get hpx)
  rw [dpOf_all] at hmem
  obtain ⟨-, hij, hjM, -⟩ := depsTo_mem hmem
  have hn2 : n ≤ 20000 := by
   have h1 := hpx.length_le
   have h2 := dl_len (kEv es) M hM120
   rw [List.length_append] at h1
   have h3 : (dsE es z pre0).length ≤ pre0.length := List.length_filterMap_le _ _
   rw [← has, List.length_map, han] at h3
   omega
  obtain ⟨x, hx⟩ := get_some (xs := es) (k := d.1) (by rw [HM.out]; omega)
  obtain ⟨y, hy⟩ := get_some (xs := es) (k := d.2.1) (by rw [HM.out]; omega)
  obtain ⟨hl4, hbx, hby, hlen⟩ := HES.out x (List.mem_of_getElem? hx) y (List.mem_of_getElem? hy)
  have hdn := dsE_next es z pre0 d
  rw [dEv_is hx hy] at hdn
  obtain ⟨i, j, dn⟩ := d
  dsimp only at hx hy hg hij hjM
  have EX : Ext w X := hLV.ext0 E4.out (fun b hb h => by omega)
  obtain ⟨o, gx, dx, rx, cx, hqo, hol, x0, x1, x2, x3, x4, hpx2, -⟩ := (HEV.out.ext EX).elem hx
  obtain ⟨o', gy, dy, ry, cy, ho', -, y0, y1, y2, y3, y4, hpy2, -⟩ := (HEV.out.ext EX).elem hy
  obtain rfl : o = o' := by rw [hqo] at ho'; cases ho'; rfl
  obtain ⟨ix, hix⟩ : ∃ i, x.1.1 = i := ⟨_, rfl⟩
  obtain ⟨iy, hiy⟩ : ∃ i, y.1.1 = i := ⟨_, rfl⟩
  obtain ⟨sx, hsx⟩ : ∃ i, x.1.2.1 = i := ⟨_, rfl⟩
  obtain ⟨sy, hsy⟩ : ∃ i, y.1.2.1 = i := ⟨_, rfl⟩
  obtain ⟨lx, hlx⟩ : ∃ i, x.1.2.2.length = i := ⟨_, rfl⟩
  obtain ⟨ly, hly⟩ : ∃ i, y.1.2.2.length = i := ⟨_, rfl⟩
  obtain ⟨kx, hkx⟩ : ∃ i, x.2.1.length = i := ⟨_, rfl⟩
  obtain ⟨ky, hky⟩ : ∃ i, y.2.1.length = i := ⟨_, rfl⟩
  obtain ⟨wx, hwx⟩ : ∃ i, x.2.2 = i := ⟨_, rfl⟩
  obtain ⟨wy, hwy⟩ : ∃ i, y.2.2 = i := ⟨_, rfl⟩
  rw [hix] at x0 hlen hdn; rw [hiy] at y0 hlen hdn; rw [hsx] at x1; rw [hsy] at y1; rw [hlx] at x2 hpx2 hlen hl4; rw [hly] at y2 hpy2 hlen; rw [hkx] at x3; rw [hky] at y3; rw [hwx] at x4; rw [hwy] at y4
  have HDI := hid hdi; have HROW := hid hrow; have HLVX := hid hLV; have HLB := hid hLB; have HAN := hid han; have HAS := hid has; have HOWN := hid hown; have HBLK := hid hblk; have HROWS := hid hrows; have HND := hid hnd
  have HOB : Hid (∀ b ∈ (g0 + 1 + 1) :: row, b < X.heap.size) := hid (fun b hb => (hob b hb).1)
  have HDN := hid hdn; have HLX := hid hlx; have HLY := hid hly; have HBX := hid hbx; have HBY := hid hby; have HPX := hid hpx2; have HPY := hid hpy2; have HLEN := hid hlen
  have KX0 := hid (hLV.heap J0.out (by omega)); have KX1 := hid (hLV.heap J1.out (by omega))
  obtain ⟨p0, p1, p2, p3, -⟩ := blk4f KX0.out
  rw [hqo] at p3
  obtain ⟨z0, z1, z2⟩ := blk3 hg
  have HGX := hid hg
  have hHeld0 : X.cell? ⟨g0, 3, none⟩ = some (.slice (some ⟨o, 0, none⟩) M c2) ∧ X.cell? ⟨g, 0, none⟩ = some (.int .i64 (i : Int)) ∧ X.cell? ⟨g, 1, none⟩ = some (.int .i64 (j : Int)) ∧ X.cell? ⟨o, i * 5, none⟩ = some (.int .i64 (ix : Int)) ∧ X.cell? ⟨o, i * 5 + 1, none⟩ = some (.int .i64 (sx : Int)) ∧ X.cell? ⟨o, i * 5 + 2, none⟩ = some (.slice (some ⟨gx, 0, none⟩) lx dx) ∧ X.cell? ⟨o, i * 5 + 3, none⟩ = some (.slice rx kx cx) ∧ X.cell? ⟨o, i * 5 + 4, none⟩ = some (.int .i64 wx) ∧ X.cell? ⟨o, j * 5, none⟩ = some (.int .i64 (iy : Int)) ∧ X.cell? ⟨o, j * 5 + 1, none⟩ = some (.int .i64 (sy : Int)) ∧ X.cell? ⟨o, j * 5 + 2, none⟩ = some (.slice (some ⟨gy, 0, none⟩) ly dy) ∧ X.cell? ⟨o, j * 5 + 3, none⟩ = some (.slice ry ky cy) ∧ X.cell? ⟨o, j * 5 + 4, none⟩ = some (.int .i64 wy) := ⟨p3, z0, z1, x0, x1, x2, x3, x4, y0, y1, y2, y3, y4⟩
  have HSO : Hid (∀ W : World, Ext X.drew W → W.cell? ⟨g0, 3, none⟩ = some (.slice (some ⟨o, 0, none⟩) M c2) ∧ W.cell? ⟨g, 0, none⟩ = some (.int .i64 (i : Int)) ∧ W.cell? ⟨g, 1, none⟩ = some (.int .i64 (j : Int)) ∧ W.cell? ⟨o, i * 5, none⟩ = some (.int .i64 (ix : Int)) ∧ W.cell? ⟨o, i * 5 + 1, none⟩ = some (.int .i64 (sx : Int)) ∧ W.cell? ⟨o, i * 5 + 2, none⟩ = some (.slice (some ⟨gx, 0, none⟩) lx dx) ∧ W.cell? ⟨o, i * 5 + 3, none⟩ = some (.slice rx kx cx) ∧ W.cell? ⟨o, i * 5 + 4, none⟩ = some (.int .i64 wx) ∧ W.cell? ⟨o, j * 5, none⟩ = some (.int .i64 (iy : Int)) ∧ W.cell? ⟨o, j * 5 + 1, none⟩ = some (.int .i64 (sy : Int)) ∧ W.cell? ⟨o, j * 5 + 2, none⟩ = some (.slice (some ⟨gy, 0, none⟩) ly dy) ∧ W.cell? ⟨o, j * 5 + 3, none⟩ = some (.slice ry ky cy) ∧ W.cell? ⟨o, j * 5 + 4, none⟩ = some (.int .i64 wy)) := hid (fun W hW => by
   have hE := (Ext.refl X).drew.trans hW
   exact ⟨hE.keep p3, hE.keep z0, hE.keep z1, hE.keep x0, hE.keep x1, hE.keep x2, hE.keep x3, hE.keep x4, hE.keep y0, hE.keep y1, hE.keep y2, hE.keep y3, hE.keep y4⟩)
  obtain ⟨XD, hXD⟩ : ∃ XD, X.drew = XD := ⟨_, rfl⟩
  rw [hXD] at HSO
  have HXD : Hid (Ext X XD) := hid (by rw [← hXD]; exact (Ext.refl X).drew)
  have HDX := hid hXD
  have hiI : (i : Int) < (M : Int) := by omega
  have hjI : (j : Int) < (M : Int) := by omega
  have HHELD : Hid (XD.cell? ⟨g0, 3, none⟩ = some (.slice (some ⟨o, 0, none⟩) M c2) ∧ XD.cell? ⟨g, 0, none⟩ = some (.int .i64 (i : Int)) ∧ XD.cell? ⟨g, 1, none⟩ = some (.int .i64 (j : Int)) ∧ XD.cell? ⟨o, i * 5, none⟩ = some (.int .i64 (ix : Int)) ∧ XD.cell? ⟨o, i * 5 + 1, none⟩ = some (.int .i64 (sx : Int)) ∧ XD.cell? ⟨o, i * 5 + 2, none⟩ = some (.slice (some ⟨gx, 0, none⟩) lx dx) ∧ XD.cell? ⟨o, i * 5 + 3, none⟩ = some (.slice rx kx cx) ∧ XD.cell? ⟨o, i * 5 + 4, none⟩ = some (.int .i64 wx) ∧ XD.cell? ⟨o, j * 5, none⟩ = some (.int .i64 (iy : Int)) ∧ XD.cell? ⟨o, j * 5 + 1, none⟩ = some (.int .i64 (sy : Int)) ∧ XD.cell? ⟨o, j * 5 + 2, none⟩ = some (.slice (some ⟨gy, 0, none⟩) ly dy) ∧ XD.cell? ⟨o, j * 5 + 3, none⟩ = some (.slice ry ky cy) ∧ XD.cell? ⟨o, j * 5 + 4, none⟩ = some (.int .i64 wy)) := hid (HSO.out XD (Ext.refl XD))
  clear hdi hrow hLV hLB han has hown hblk hrows hnd hob hpx hrx hmem hx hy hdn hlx hly hbx hby hpx2 hpy2 hlen EX hqo ho' hix hiy hsx hsy hkx hky hwx hwy hg p0 p1 p2 p3 z0 z1 z2 x0 x1 x2 x3 x4 y0 y1 y2 y3 y4 hHeld0 hXD
  gi_wp2_with (fail)
  refine Code.wpIn_mono (Q := fun ex a wz => ex = .normal ∧ ∃ (g7 g8 : Nat) (u12 u13 u14 u15 u16 u17 u18 u19 u20 u21 u22 u23 : Value), a = { tmps := #[.agg #[.map mo, .int .i64 T, .slice q1 n1 c1, .slice q2 M c2], .int .i64 z, .pointer (some ⟨g0, 0, none⟩), .pointer (some ⟨g0 + 1, 0, none⟩), .slice none 0 0, .pointer (some ⟨g0 + 1 + 1, 0, none⟩), .pointer (some ⟨g, 0, none⟩), .pointer (some ⟨g7, 0, none⟩), .pointer (some ⟨g8, 0, none⟩), .agg #[.map mo, .int .i64 T, .slice q1 n1 c1, .slice q2 M c2], .func (.func 172) #[] #[.pointer (some ⟨g0 + 3, 0, none⟩)], .agg #[.int .i64 (i : Int), .int .i64 (j : Int), .int .i64 dn], u12, u13, u14, u15, u16, u17, u18, u19, u20, u21, u22, u23, undef, undef, undef, undef, undef, undef, undef, undef, undef, undef, undef, undef, undef, undef, undef, undef, undef, undef, undef, undef, undef, undef, undef, undef, undef, undef], defers := [] } ∧ Ext X wz ∧ wz.heap[g7]? = some (.cells #[.int .i64 (ix : Int), .int .i64 (sx : Int), .slice (some ⟨gx, 0, none⟩) lx dx, .slice rx kx cx, .int .i64 wx] 76 (0, 0)) ∧ wz.heap[g8]? = some (.cells #[.int .i64 (iy : Int), .int .i64 (sy : Int), .slice (some ⟨gy, 0, none⟩) ly dy, .slice ry ky cy, .int .i64 wy] 76 (0, 0)) ∧ g7 ≠ g8) ?rest ?reg
  case reg =>
   refine wpIn_round_held (S := fun W => W.cell? ⟨g0, 3, none⟩ = some (.slice (some ⟨o, 0, none⟩) M c2) ∧ W.cell? ⟨g, 0, none⟩ = some (.int .i64 (i : Int)) ∧ W.cell? ⟨g, 1, none⟩ = some (.int .i64 (j : Int)) ∧ W.cell? ⟨o, i * 5, none⟩ = some (.int .i64 (ix : Int)) ∧ W.cell? ⟨o, i * 5 + 1, none⟩ = some (.int .i64 (sx : Int)) ∧ W.cell? ⟨o, i * 5 + 2, none⟩ = some (.slice (some ⟨gx, 0, none⟩) lx dx) ∧ W.cell? ⟨o, i * 5 + 3, none⟩ = some (.slice rx kx cx) ∧ W.cell? ⟨o, i * 5 + 4, none⟩ = some (.int .i64 wx) ∧ W.cell? ⟨o, j * 5, none⟩ = some (.int .i64 (iy : Int)) ∧ W.cell? ⟨o, j * 5 + 1, none⟩ = some (.int .i64 (sy : Int)) ∧ W.cell? ⟨o, j * 5 + 2, none⟩ = some (.slice (some ⟨gy, 0, none⟩) ly dy) ∧ W.cell? ⟨o, j * 5 + 3, none⟩ = some (.slice ry ky cy) ∧ W.cell? ⟨o, j * 5 + 4, none⟩ = some (.int .i64 wy)) (by kernel_rfl) (by kernel_rfl) (fun ⟨_, _, h⟩ => by cases h.1) (by rw [HDX.out]; exact HHELD.out) (fun hHeld => ?_)
   rw [HDX.out] at hHeld ⊢
   have HE : Hid (Ext XD XD) := hid (Ext.refl XD)
   refine wpAnyH_takeDw (some 12) (i := 0) (v := ?vd1) rfl (by kernel_rfl) (by kernel_rfl) (by kernel_rfl) (by kernel_rfl) (fun _ _ _ h => by cases h.1) (Or.inl ⟨by rfl, ?hyd1⟩) (by assumption) ?rd1
   case hyd1 => intro w hSw; (try dsimp only at hSw); go_simp; first | done | with_reducible rfl
   case' rd1 => try simp only [Act.put, sA9, sZ9, sS9]
   refine wpAnyH_takeDw (some 13) (i := 1) (v := ?vd2) rfl (by kernel_rfl) (by kernel_rfl) (by kernel_rfl) (by kernel_rfl) (fun _ _ _ h => by cases h.1) (Or.inl ⟨by rfl, ?hyd2⟩) (by assumption) ?rd2
   case hyd2 => intro w hSw; (try dsimp only at hSw); go_simp; first | done | with_reducible rfl
   case' rd2 => try simp only [Act.put, sA9, sZ9, sS9]
   refine wpAnyH_takeDw (some 14) (i := 2) (v := ?vd3) rfl (by kernel_rfl) (by kernel_rfl) (by kernel_rfl) (by kernel_rfl) (fun _ _ _ h => by cases h.1) (Or.inl ⟨by rfl, ?hyd3⟩) (by assumption) ?rd3
   case hyd3 => intro w hSw; (try dsimp only at hSw); go_simp; first | done | with_reducible rfl
   case' rd3 => try simp only [Act.put, sA9, sZ9, sS9]
   refine wpAnyH_takeDw (some 15) (i := 3) (v := ?vd4) rfl (by kernel_rfl) (by kernel_rfl) (by kernel_rfl) (by kernel_rfl) (fun _ _ _ h => by cases h.1) (Or.inl ⟨by rfl, ?hyd4⟩) (by assumption) ?rd4
   case hyd4 => intro w hSw; (try dsimp only at hSw); go_simp; first | done | with_reducible rfl
   case' rd4 => try simp only [Act.put, sA9, sZ9, sS9]
   refine wpAnyH_takeDw (some 16) (i := 4) (v := ?vd5) rfl (by kernel_rfl) (by kernel_rfl) (by kernel_rfl) (by kernel_rfl) (fun _ _ _ h => by cases h.1) (Or.inl ⟨by rfl, ?hyd5⟩) (by assumption) ?rd5
   case hyd5 => intro w hSw; (try dsimp only at hSw); go_simp; first | done | with_reducible rfl
   case' rd5 => try simp only [Act.put, sA9, sZ9, sS9]
   refine wpAnyH_takeDw (some 17) (i := 5) (v := ?vd6) rfl (by kernel_rfl) (by kernel_rfl) (by kernel_rfl) (by kernel_rfl) (fun _ _ _ h => by cases h.1) (Or.inl ⟨by rfl, ?hyd6⟩) (by assumption) ?rd6
   case hyd6 => intro w hSw; (try dsimp only at hSw); go_simp; first | done | with_reducible rfl
   case' rd6 => try simp only [Act.put, sA9, sZ9, sS9]
   refine wpAnyH_takeDw (some 18) (i := 6) (v := ?vd7) rfl (by kernel_rfl) (by kernel_rfl) (by kernel_rfl) (by kernel_rfl) (fun _ _ _ h => by cases h.1) (Or.inl ⟨by rfl, ?hyd7⟩) (by assumption) ?rd7
   case hyd7 => intro w hSw; (try dsimp only at hSw); go_simp; first | done | with_reducible rfl
   case' rd7 => try simp only [Act.put, sA9, sZ9, sS9]
   refine wpAnyH_takeDw (some 19) (i := 7) (v := ?vd8) rfl (by kernel_rfl) (by kernel_rfl) (by kernel_rfl) (by kernel_rfl) (fun _ _ _ h => by cases h.1) (Or.inl ⟨by rfl, ?hyd8⟩) (by assumption) ?rd8
   case hyd8 => intro w hSw; (try dsimp only at hSw); go_simp; first | done | with_reducible rfl
   case' rd8 => try simp only [Act.put, sA9, sZ9, sS9]
   refine wpAnyH_takeDw (some 20) (i := 8) (v := ?vd9) rfl (by kernel_rfl) (by kernel_rfl) (by kernel_rfl) (by kernel_rfl) (fun _ _ _ h => by cases h.1) (Or.inl ⟨by rfl, ?hyd9⟩) (by assumption) ?rd9
   case hyd9 => intro w hSw; (try dsimp only at hSw); go_simp; first | done | with_reducible rfl
   case' rd9 => try simp only [Act.put, sA9, sZ9, sS9]
   refine wpAnyH_takeDw (some 21) (i := 9) (v := ?vd10) rfl (by kernel_rfl) (by kernel_rfl) (by kernel_rfl) (by kernel_rfl) (fun _ _ _ h => by cases h.1) (Or.inl ⟨by rfl, ?hyd10⟩) (by assumption) ?rd10
   case hyd10 => intro w hSw; (try dsimp only at hSw); go_simp; first | done | with_reducible rfl
   case' rd10 => try simp only [Act.put, sA9, sZ9, sS9]
   refine wpAnyH_takeDw (some 22) (i := 10) (v := ?vd11) rfl (by kernel_rfl) (by kernel_rfl) (by kernel_rfl) (by kernel_rfl) (fun _ _ _ h => by cases h.1) (Or.inl ⟨by rfl, ?hyd11⟩) (by assumption) ?rd11
   case hyd11 => intro w hSw; (try dsimp only at hSw); go_simp; first | done | with_reducible rfl
   case' rd11 => try simp only [Act.put, sA9, sZ9, sS9]
   refine wpAnyH_takeDw (some 23) (i := 11) (v := ?vd12) rfl (by kernel_rfl) (by kernel_rfl) (by kernel_rfl) (by kernel_rfl) (fun _ _ _ h => by cases h.1) (Or.inl ⟨by rfl, ?hyd12⟩) (by assumption) ?rd12
   case hyd12 => intro w hSw; (try dsimp only at hSw); go_simp; first | done | with_reducible rfl
   case' rd12 => try simp only [Act.put, sA9, sZ9, sS9]
   refine wpAnyH_ready (rs := [12, 13]) (by kernel_rfl) (by simp) ?_
   refine AllReadyH.cons rfl (fun K9 hK => ?_) (AllReadyH.cons rfl (fun K9 hK => ?_) AllReadyH.nil)
   ·skip
    go_simp
    have hX : Ext XD (XD.alloc (.cells #[.int .i64 0, .int .i64 0, .slice none 0 0, .slice none 0 0, .int .i64 0] 76)) := (Ext.refl _).alloc _
    refine hK.out _ _ (HSO.out _ (HE.out.trans hX)) (fun hH => ?_)
    obtain ⟨g7, hg7⟩ : ∃ g, XD.heap.size = g := ⟨_, rfl⟩
    have H7 : Hid ((XD.alloc (.cells #[.int .i64 0, .int .i64 0, .slice none 0 0, .slice none 0 0, .int .i64 0] 76)).heap[g7]? = some (.cells #[.int .i64 0, .int .i64 0, .slice none 0 0, .slice none 0 0, .int .i64 0] 76 (0, 0))) := hid (blk_at hg7.symm)
    have HG7 : Hid (XD.heap.size ≤ g7) := hid (by rw [← hg7]; exact HE.out.size_le)
    rw [hg7]
    obtain ⟨xa7, hw⟩ : ∃ x, XD.alloc (.cells #[.int .i64 0, .int .i64 0, .slice none 0 0, .slice none 0 0, .int .i64 0] 76) = x := ⟨_, rfl⟩
    replace HE := hid (HE.out.trans hX)
    rw [hw] at HE H7 hH ⊢
    clear hw hX hg7 hK K9
    try simp only [Act.put, sA9, sZ9, sS9]
    replace hHeld := hH; clear hH
    refine wpAnyH_ready (rs := [13]) (by kernel_rfl) (by simp) ?_
    refine AllReadyH.cons rfl (fun K9 hK => ?_) AllReadyH.nil
    go_simp
    have hX : Ext xa7 (xa7.alloc (.cells #[.int .i64 0, .int .i64 0, .slice none 0 0, .slice none 0 0, .int .i64 0] 76)) := (Ext.refl _).alloc _
    refine hK.out _ _ (HSO.out _ (HE.out.trans hX)) (fun hH => ?_)
    obtain ⟨g8, hg8⟩ : ∃ g, xa7.heap.size = g := ⟨_, rfl⟩
    have H8 : Hid ((xa7.alloc (.cells #[.int .i64 0, .int .i64 0, .slice none 0 0, .slice none 0 0, .int .i64 0] 76)).heap[g8]? = some (.cells #[.int .i64 0, .int .i64 0, .slice none 0 0, .slice none 0 0, .int .i64 0] 76 (0, 0))) := hid (blk_at hg8.symm)
    have HG8 : Hid (XD.heap.size ≤ g8) := hid (by rw [← hg8]; exact HE.out.size_le)
    have HN : Hid (g7 ≠ g8) := hid (by have := lt_of_block H7.out; omega)
    replace H7 := hid (hX.blk H7.out)
    rw [hg8]
    obtain ⟨xa7a8, hw⟩ : ∃ x, xa7.alloc (.cells #[.int .i64 0, .int .i64 0, .slice none 0 0, .slice none 0 0, .int .i64 0] 76) = x := ⟨_, rfl⟩
    replace HE := hid (HE.out.trans hX)
    rw [hw] at HE H7 H8 hH ⊢
    clear hw hX hg8 hK K9
    try simp only [Act.put, sA9, sZ9, sS9]
    replace hHeld := hH; clear hH
    refine wpAnyH_ready (rs := [14]) (by kernel_rfl) (by simp) ?_
    refine AllReadyH.cons rfl (fun K9 hK => ?_) AllReadyH.nil
    obtain ⟨a0, a1, a2, a3, a4, af⟩ := blk5e H7.out
    have f0 := af 0; have f1 := af 1; have f2 := af 2; have f3 := af 3; have f4 := af 4
    have hl7 := lt_of_block H7.out
    clear af
    go_simp
    have hX := ext_set5 (w := XD) HE.out HG7.out (.int .i64 (ix : Int)) (.int .i64 (sx : Int)) (.slice (some ⟨gx, 0, none⟩) lx dx) (.slice rx kx cx) (.int .i64 wx)
    refine hK.out _ _ (HSO.out _ hX) (fun hH => ?_)
    have hb := blk5_set (a' := .int .i64 (ix : Int)) (b' := .int .i64 (sx : Int)) (c' := .slice (some ⟨gx, 0, none⟩) lx dx) (d' := .slice rx kx cx) (k' := .int .i64 wx) H7.out
    have ho := (lv_set5 xa7a8 g7 (.int .i64 (ix : Int)) (.int .i64 (sx : Int)) (.slice (some ⟨gx, 0, none⟩) lx dx) (.slice rx kx cx) (.int .i64 wx)).heap H8.out (by have := HN.out; omega)
    generalize (((((xa7a8.setCell ⟨g7, 0, none⟩ (.int .i64 (ix : Int))).setCell ⟨g7, 1, none⟩ (.int .i64 (sx : Int))).setCell ⟨g7, 2, none⟩ (.slice (some ⟨gx, 0, none⟩) lx dx)).setCell ⟨g7, 3, none⟩ (.slice rx kx cx)).setCell ⟨g7, 4, none⟩ (.int .i64 wx)) = xa7a8s7 at *
    replace HE := hid hX; replace H7 := hid hb
    replace H8 := hid ho
    clear ho
    clear hX hb a0 a1 a2 a3 a4 f0 f1 f2 f3 f4 hl7 hK K9
    try simp only [Act.put, sA9, sZ9, sS9]
    replace hHeld := hH; clear hH
    refine wpAnyH_ready (rs := [15]) (by kernel_rfl) (by simp) ?_
    refine AllReadyH.cons rfl (fun K9 hK => ?_) AllReadyH.nil
    obtain ⟨a0, a1, a2, a3, a4, af⟩ := blk5e H8.out
    have f0 := af 0; have f1 := af 1; have f2 := af 2; have f3 := af 3; have f4 := af 4
    have hl8 := lt_of_block H8.out
    clear af
    go_simp
    have hX := ext_set5 (w := XD) HE.out HG8.out (.int .i64 (iy : Int)) (.int .i64 (sy : Int)) (.slice (some ⟨gy, 0, none⟩) ly dy) (.slice ry ky cy) (.int .i64 wy)
    refine hK.out _ _ (HSO.out _ hX) (fun hH => ?_)
    have hb := blk5_set (a' := .int .i64 (iy : Int)) (b' := .int .i64 (sy : Int)) (c' := .slice (some ⟨gy, 0, none⟩) ly dy) (d' := .slice ry ky cy) (k' := .int .i64 wy) H8.out
    have ho := (lv_set5 xa7a8s7 g8 (.int .i64 (iy : Int)) (.int .i64 (sy : Int)) (.slice (some ⟨gy, 0, none⟩) ly dy) (.slice ry ky cy) (.int .i64 wy)).heap H7.out (by have := HN.out; omega)
    generalize (((((xa7a8s7.setCell ⟨g8, 0, none⟩ (.int .i64 (iy : Int))).setCell ⟨g8, 1, none⟩ (.int .i64 (sy : Int))).setCell ⟨g8, 2, none⟩ (.slice (some ⟨gy, 0, none⟩) ly dy)).setCell ⟨g8, 3, none⟩ (.slice ry ky cy)).setCell ⟨g8, 4, none⟩ (.int .i64 wy)) = xa7a8s7s8 at *
    replace HE := hid hX; replace H8 := hid hb
    replace H7 := hid ho
    clear ho
    clear hX hb a0 a1 a2 a3 a4 f0 f1 f2 f3 f4 hl8 hK K9
    try simp only [Act.put, sA9, sZ9, sS9]
    replace hHeld := hH; clear hH
    refine wpAnyH_done (by kernel_rfl) ?_ _
    exact ⟨rfl, g7, g8, _, _, _, _, _, _, _, _, _, _, _, _, rfl, HXD.out.trans HE.out, H7.out, H8.out, HN.out⟩
   ·skip
    go_simp
    have hX : Ext XD (XD.alloc (.cells #[.int .i64 0, .int .i64 0, .slice none 0 0, .slice none 0 0, .int .i64 0] 76)) := (Ext.refl _).alloc _
    refine hK.out _ _ (HSO.out _ (HE.out.trans hX)) (fun hH => ?_)
    obtain ⟨g8, hg8⟩ : ∃ g, XD.heap.size = g := ⟨_, rfl⟩
    have H8 : Hid ((XD.alloc (.cells #[.int .i64 0, .int .i64 0, .slice none 0 0, .slice none 0 0, .int .i64 0] 76)).heap[g8]? = some (.cells #[.int .i64 0, .int .i64 0, .slice none 0 0, .slice none 0 0, .int .i64 0] 76 (0, 0))) := hid (blk_at hg8.symm)
    have HG8 : Hid (XD.heap.size ≤ g8) := hid (by rw [← hg8]; exact HE.out.size_le)
    rw [hg8]
    obtain ⟨xa8, hw⟩ : ∃ x, XD.alloc (.cells #[.int .i64 0, .int .i64 0, .slice none 0 0, .slice none 0 0, .int .i64 0] 76) = x := ⟨_, rfl⟩
    replace HE := hid (HE.out.trans hX)
    rw [hw] at HE H8 hH ⊢
    clear hw hX hg8 hK K9
    try simp only [Act.put, sA9, sZ9, sS9]
    replace hHeld := hH; clear hH
    refine wpAnyH_ready (rs := [12]) (by kernel_rfl) (by simp) ?_
    refine AllReadyH.cons rfl (fun K9 hK => ?_) AllReadyH.nil
    go_simp
    have hX : Ext xa8 (xa8.alloc (.cells #[.int .i64 0, .int .i64 0, .slice none 0 0, .slice none 0 0, .int .i64 0] 76)) := (Ext.refl _).alloc _
    refine hK.out _ _ (HSO.out _ (HE.out.trans hX)) (fun hH => ?_)
    obtain ⟨g7, hg7⟩ : ∃ g, xa8.heap.size = g := ⟨_, rfl⟩
    have H7 : Hid ((xa8.alloc (.cells #[.int .i64 0, .int .i64 0, .slice none 0 0, .slice none 0 0, .int .i64 0] 76)).heap[g7]? = some (.cells #[.int .i64 0, .int .i64 0, .slice none 0 0, .slice none 0 0, .int .i64 0] 76 (0, 0))) := hid (blk_at hg7.symm)
    have HG7 : Hid (XD.heap.size ≤ g7) := hid (by rw [← hg7]; exact HE.out.size_le)
    have HN : Hid (g7 ≠ g8) := hid (by have := lt_of_block H8.out; omega)
    replace H8 := hid (hX.blk H8.out)
    rw [hg7]
    obtain ⟨xa8a7, hw⟩ : ∃ x, xa8.alloc (.cells #[.int .i64 0, .int .i64 0, .slice none 0 0, .slice none 0 0, .int .i64 0] 76) = x := ⟨_, rfl⟩
    replace HE := hid (HE.out.trans hX)
    rw [hw] at HE H7 H8 hH ⊢
    clear hw hX hg7 hK K9
    try simp only [Act.put, sA9, sZ9, sS9]
    replace hHeld := hH; clear hH
    refine wpAnyH_ready (rs := [14]) (by kernel_rfl) (by simp) ?_
    refine AllReadyH.cons rfl (fun K9 hK => ?_) AllReadyH.nil
    obtain ⟨a0, a1, a2, a3, a4, af⟩ := blk5e H7.out
    have f0 := af 0; have f1 := af 1; have f2 := af 2; have f3 := af 3; have f4 := af 4
    have hl7 := lt_of_block H7.out
    clear af
    go_simp
    have hX := ext_set5 (w := XD) HE.out HG7.out (.int .i64 (ix : Int)) (.int .i64 (sx : Int)) (.slice (some ⟨gx, 0, none⟩) lx dx) (.slice rx kx cx) (.int .i64 wx)
    refine hK.out _ _ (HSO.out _ hX) (fun hH => ?_)
    have hb := blk5_set (a' := .int .i64 (ix : Int)) (b' := .int .i64 (sx : Int)) (c' := .slice (some ⟨gx, 0, none⟩) lx dx) (d' := .slice rx kx cx) (k' := .int .i64 wx) H7.out
    have ho := (lv_set5 xa8a7 g7 (.int .i64 (ix : Int)) (.int .i64 (sx : Int)) (.slice (some ⟨gx, 0, none⟩) lx dx) (.slice rx kx cx) (.int .i64 wx)).heap H8.out (by have := HN.out; omega)
    generalize (((((xa8a7.setCell ⟨g7, 0, none⟩ (.int .i64 (ix : Int))).setCell ⟨g7, 1, none⟩ (.int .i64 (sx : Int))).setCell ⟨g7, 2, none⟩ (.slice (some ⟨gx, 0, none⟩) lx dx)).setCell ⟨g7, 3, none⟩ (.slice rx kx cx)).setCell ⟨g7, 4, none⟩ (.int .i64 wx)) = xa8a7s7 at *
    replace HE := hid hX; replace H7 := hid hb
    replace H8 := hid ho
    clear ho
    clear hX hb a0 a1 a2 a3 a4 f0 f1 f2 f3 f4 hl7 hK K9
    try simp only [Act.put, sA9, sZ9, sS9]
    replace hHeld := hH; clear hH
    refine wpAnyH_ready (rs := [15]) (by kernel_rfl) (by simp) ?_
    refine AllReadyH.cons rfl (fun K9 hK => ?_) AllReadyH.nil
    obtain ⟨a0, a1, a2, a3, a4, af⟩ := blk5e H8.out
    have f0 := af 0; have f1 := af 1; have f2 := af 2; have f3 := af 3; have f4 := af 4
    have hl8 := lt_of_block H8.out
    clear af
    go_simp
    have hX := ext_set5 (w := XD) HE.out HG8.out (.int .i64 (iy : Int)) (.int .i64 (sy : Int)) (.slice (some ⟨gy, 0, none⟩) ly dy) (.slice ry ky cy) (.int .i64 wy)
    refine hK.out _ _ (HSO.out _ hX) (fun hH => ?_)
    have hb := blk5_set (a' := .int .i64 (iy : Int)) (b' := .int .i64 (sy : Int)) (c' := .slice (some ⟨gy, 0, none⟩) ly dy) (d' := .slice ry ky cy) (k' := .int .i64 wy) H8.out
    have ho := (lv_set5 xa8a7s7 g8 (.int .i64 (iy : Int)) (.int .i64 (sy : Int)) (.slice (some ⟨gy, 0, none⟩) ly dy) (.slice ry ky cy) (.int .i64 wy)).heap H7.out (by have := HN.out; omega)
    generalize (((((xa8a7s7.setCell ⟨g8, 0, none⟩ (.int .i64 (iy : Int))).setCell ⟨g8, 1, none⟩ (.int .i64 (sy : Int))).setCell ⟨g8, 2, none⟩ (.slice (some ⟨gy, 0, none⟩) ly dy)).setCell ⟨g8, 3, none⟩ (.slice ry ky cy)).setCell ⟨g8, 4, none⟩ (.int .i64 wy)) = xa8a7s7s8 at *
    replace HE := hid hX; replace H8 := hid hb
    replace H7 := hid ho
    clear ho
    clear hX hb a0 a1 a2 a3 a4 f0 f1 f2 f3 f4 hl8 hK K9
    try simp only [Act.put, sA9, sZ9, sS9]
    replace hHeld := hH; clear hH
    refine wpAnyH_done (by kernel_rfl) ?_ _
    exact ⟨rfl, g7, g8, _, _, _, _, _, _, _, _, _, _, _, _, rfl, HXD.out.trans HE.out, H7.out, H8.out, HN.out⟩
  case rest =>
   rintro ex a wz ⟨rfl, g7, g8, u12, u13, u14, u15, u16, u17, u18, u19, u20, u21, u22, u23, rfl, hE, h7, h8, -⟩
   have HEz := hid hE; have H7 := hid h7; have H8 := hid h8
   have KZ1 := hid (hE.blk KX1.out)
   obtain ⟨a0, a1, a2, -, -, -⟩ := blk5e h7
   obtain ⟨b0, b1, b2, -, -, -⟩ := blk5e h8
   obtain ⟨k1, -⟩ := blk1 KZ1.out
   clear hE h7 h8
   have HLV0 : Hid (Lv (fun k => k ∉ (g0 + 1 + 1) :: row ∧ W4.heap.size ≤ k) X wz) := hid (HEz.out.lv)
   have HGR0 : Hid (Grew ((g0 + 1 + 1) :: row) ((g0 + 1 + 1) :: row) X wz) := hid ⟨HEz.out.lv, fun b hb => ⟨.inl hb, by have := HOB.out b hb; have := HEz.out.size_le; omega⟩⟩
   by_cases hA : (ix : Int) = z
   ·have hA1 : ((ix : Int) == z) = true := by simpa using hA
    by_cases hB : (iy : Int) = z
    ·have hB1 : ((iy : Int) == z) = true := by simpa using hB
     have hleq : ly = lx := HLEN.out (by omega)
     have HF : Hid (dsE es z (pre0 ++ [(i, j, dn)]) = dsE es z pre0 ++ [subL y.1.2.2 x.1.2.2]) := hid (by rw [HDN.out, if_pos ⟨hA, hB⟩]; rfl)
     have HSL : Hid ((subL y.1.2.2 x.1.2.2).length = ly) := hid (subL_len HLY.out (by rw [HLX.out, hleq]))
     have HLXY : Hid (x.1.2.2.length = ly) := hid (by rw [HLX.out, hleq])
     clear hA hB
     subst hleq
     have HRO := hid (ownsRow_ext HOWN.out HEz.out)
     have KL6 := hid (HEz.out.blk HLB.out)
     have cPz := (blk1 KL6.out).1
     have HPXa := hid (HPX.out.ext HEz.out); have HPYa := hid (HPY.out.ext HEz.out)
     have HNB : Hid (some (g0 + 1 + 1) ≠ (Value.slice p n c).ownBlock) := hid (fun e => by have := HROW.out _ (HBLK.out _ e.symm); have := HS4.out; omega)
     have HSV : Hid (∀ W : World, (W.heap[g7]? = wz.heap[g7]? ∧ W.heap[g8]? = wz.heap[g8]?) → W.cell? ⟨g8, 2, none⟩ = some (.slice (some ⟨gy, 0, none⟩) ly dy) ∧ W.cell? ⟨g7, 2, none⟩ = some (.slice (some ⟨gx, 0, none⟩) ly dx)) := hid (fun W h => by
      obtain ⟨-, -, t2, -⟩ := blk5e (h.1.trans H7.out)
      obtain ⟨-, -, s2, -⟩ := blk5e (h.2.trans H8.out)
      exact ⟨s2, t2⟩)
     have hl7 := lt_of_block H7.out
     have hl8 := lt_of_block H8.out
     have H7L := hid hl7; have H8L := hid hl8
     have HTY7 : Hid (some g7 ≠ (Value.slice p n c).ownBlock) := hid (row_tagne HRO.out H7.out (by decide))
     have HTY8 : Hid (some g8 ≠ (Value.slice p n c).ownBlock) := hid (row_tagne HRO.out H8.out (by decide))
     have HN7 : Hid (g7 ≠ g0 + 1 + 1) := hid (fun e => by have h := H7.out; rw [e, KL6.out] at h; simp at h)
     have HN8 : Hid (g8 ≠ g0 + 1 + 1) := hid (fun e => by have h := H8.out; rw [e, KL6.out] at h; simp at h)
     have HSO6 : Hid (∀ W : World, Ext wz W → W.cell? ⟨g8, 2, none⟩ = some (.slice (some ⟨gy, 0, none⟩) ly dy) ∧ W.cell? ⟨g7, 2, none⟩ = some (.slice (some ⟨gx, 0, none⟩) ly dx)) := hid (fun W h => HSV.out W ⟨h.block g7 H7L.out, h.block g8 H8L.out⟩)
     have HSO7 : Hid (∀ A W : World, Ext wz A → A.grownBy W (Value.slice p n c).ownBlock → W.cell? ⟨g8, 2, none⟩ = some (.slice (some ⟨gy, 0, none⟩) ly dy) ∧ W.cell? ⟨g7, 2, none⟩ = some (.slice (some ⟨gx, 0, none⟩) ly dx)) := hid (fun A W h hg => HSV.out W ⟨(hg.block g7 (Nat.lt_of_lt_of_le H7L.out h.size) HTY7.out).trans (h.block g7 H7L.out), (hg.block g8 (Nat.lt_of_lt_of_le H8L.out h.size) HTY8.out).trans (h.block g8 H8L.out)⟩)
     have HSO8 : Hid (∀ (A W : World) (v : Value), Ext wz A → A.grownBy W (Value.slice p n c).ownBlock → (W.setCell ⟨g0 + 1 + 1, 0, none⟩ v).cell? ⟨g8, 2, none⟩ = some (.slice (some ⟨gy, 0, none⟩) ly dy) ∧ (W.setCell ⟨g0 + 1 + 1, 0, none⟩ v).cell? ⟨g7, 2, none⟩ = some (.slice (some ⟨gx, 0, none⟩) ly dx)) := hid (fun A W v h hg => by
      obtain ⟨s2, t2⟩ := HSO7.out A W h hg
      exact ⟨(lv_set W (g0 + 1 + 1) 0 v).cellAt s2 HN8.out, (lv_set W (g0 + 1 + 1) 0 v).cellAt t2 HN7.out⟩)
     have HSTEP : Hid (∀ (v4 A w7 : World) (gq cq gr dr : Nat), Ext wz A → A = v4.alloc (.cells #[.slice (some ⟨gq, 0, none⟩) ly cq] 39) → IntsOwn wz.drew.heap.size v4 (.slice (some ⟨gq, 0, none⟩) ly cq) (subL y.1.2.2 x.1.2.2) → wz.drew.heap.size ≤ gq → gq < A.heap.size → A.grownBy w7 (Value.slice p n c).ownBlock →
       w7.ownsRow W4.heap.size 39 1 (.slice (some ⟨gr, 0, none⟩) (n + 1) dr) (n + 1) (al.map (fun a => a.1) ++ [.slice (some ⟨gq, 0, none⟩) ly cq]) → ((Value.slice (some ⟨gr, 0, none⟩) (n + 1) dr).ownBlock = (Value.slice p n c).ownBlock ∨ (Value.slice (some ⟨gr, 0, none⟩) (n + 1) dr).ownBlock = some A.heap.size) →
       ∃ own', Grew ((g0 + 1 + 1) :: row) own' X (w7.setCell ⟨g0 + 1 + 1, 0, none⟩ (.slice (some ⟨gr, 0, none⟩) (n + 1) dr)) ∧ DiI W4 (g0 + 1 + 1) (dsE es z) (pre0 ++ [(i, j, dn)]) own' (w7.setCell ⟨g0 + 1 + 1, 0, none⟩ (.slice (some ⟨gr, 0, none⟩) (n + 1) dr))) :=
      hid (fun v4 A w7 gq cq gr dr hA1 hA2 hdo hd0 hd1 hgr hown7 hat => by
       have h1 : wz.drew.heap.size = wz.heap.size := rfl
       have h2 := HEz.out.size_le; have h3 := HLVX.out.size
       exact DiI.step HROW.out HLVX.out (by have := HS4.out; omega) HLB.out HAN.out HAS.out HBLK.out HROWS.out HND.out HOB.out HOWN.out HF.out HSL.out (HEz.out.trans hA1) hA2 hdo (by omega) hd1 (.inr (by omega)) hgr hown7 hat)
     have hW4z : W4.heap.size ≤ wz.heap.size := by have := HLVX.out.size; have := HEz.out.size_le; omega
     clear hl7 hl8
     gi_wp2_with (fail)
     refine wpIn_round_held (S := (fun W => W.cell? ⟨g8, 2, none⟩ = some (.slice (some ⟨gy, 0, none⟩) ly dy) ∧ W.cell? ⟨g7, 2, none⟩ = some (.slice (some ⟨gx, 0, none⟩) ly dx))) (by kernel_rfl) (by kernel_rfl) (fun ⟨_, _, h⟩ => h) (HSO6.out _ (Ext.refl wz).drew) (fun hHeld => ?_)
     refine wpAnyH_takeDw (some 37) (i := 1) (v := ?vz1) rfl (by kernel_rfl) (by kernel_rfl) (by kernel_rfl) (by kernel_rfl) (fun _ _ _ h => h) (Or.inl ⟨by rfl, ?hyz1⟩) (by assumption) ?rz1
     case hyz1 => intro w hSw; (try dsimp only at hSw); go_simp; first | done | with_reducible rfl
     case' rz1 => try simp only [Act.put, sA9, sZ9, sS9]
     refine wpAnyH_takeDw (some 38) (i := 2) (v := ?vz2) rfl (by kernel_rfl) (by kernel_rfl) (by kernel_rfl) (by kernel_rfl) (fun _ _ _ h => h) (Or.inl ⟨by rfl, ?hyz2⟩) (by assumption) ?rz2
     case hyz2 => intro w hSw; (try dsimp only at hSw); go_simp; first | done | with_reducible rfl
     case' rz2 => try simp only [Act.put, sA9, sZ9, sS9]
     refine wpAnyH_takeDw (some 39) (i := 3) (v := ?vz3) rfl (by kernel_rfl) (by kernel_rfl) (by kernel_rfl) (by kernel_rfl) (fun _ _ _ h => h) (Or.inl ⟨by rfl, ?hyz3⟩) (by assumption) ?rz3
     case hyz3 => intro w hSw; (try dsimp only at hSw); go_simp; first | done | with_reducible rfl
     case' rz3 => try simp only [Act.put, sA9, sZ9, sS9]
     refine wpAnyH_takeDw (some 40) (i := 4) (v := ?vz4) rfl (by kernel_rfl) (by kernel_rfl) (by kernel_rfl) (by kernel_rfl) (fun _ _ _ h => h) (Or.inl ⟨by rfl, ?hyz4⟩) (by assumption) ?rz4
     case hyz4 => intro w hSw; (try dsimp only at hSw); go_simp; first | done | with_reducible rfl
     case' rz4 => try simp only [Act.put, sA9, sZ9, sS9]
     refine wpAnyH_takeDw (some 41) (i := 5) (v := ?vz5) rfl (by kernel_rfl) (by kernel_rfl) (by kernel_rfl) (by kernel_rfl) (fun _ _ _ h => h) (Or.inl ⟨by rfl, ?hyz5⟩) (by assumption) ?rz5
     case hyz5 => intro w hSw; (try dsimp only at hSw); go_simp; first | done | with_reducible rfl
     case' rz5 => try simp only [Act.put, sA9, sZ9, sS9]
     refine wpAnyH_takeDw (some 42) (i := 6) (v := ?vz6) rfl (by kernel_rfl) (by kernel_rfl) (by kernel_rfl) (by kernel_rfl) (fun _ _ _ h => h) (Or.inl ⟨by rfl, ?hyz6⟩) (by assumption) ?rz6
     case hyz6 => intro w hSw; (try dsimp only at hSw); go_simp; first | done | with_reducible rfl
     case' rz6 => try simp only [Act.put, sA9, sZ9, sS9]
     refine wpAnyH_ready (rs := [0, 7]) (by kernel_rfl) (by simp) ?_
     refine AllReadyH.cons rfl (fun K9 hK => ?_) (AllReadyH.cons rfl (fun K9 hK => ?_) AllReadyH.nil)
     ·skip
      go_simp
      refine hK.out _ _ (HSO6.out _ (Ext.refl wz).drew) (fun hHz7 => ?_)
      clear hK K9
      try simp only [Act.put, sA9, sZ9, sS9]
      refine wpAnyH_ready (rs := [7]) (by kernel_rfl) (by simp) ?_
      refine AllReadyH.cons rfl (fun K9 hK => ?_) AllReadyH.nil
      (go_simp; refine (difference_any ⟨gy, 0, none⟩ (some ⟨gx, 0, none⟩) ly dy dx y.1.2.2 x.1.2.2 _ HLY.out HLX.out (by omega) (HPYa.out.at.ext (Ext.refl wz).drew) (HPXa.out.at.ext (Ext.refl wz).drew) HBY.out HBX.out).mono ?_; rintro e v4 ⟨⟨gq, cq, rfl, hdo, hd0, hd1⟩, hE4⟩; have EX : Ext wz v4 := (Ext.refl wz).drew.trans hE4; have KP4 := EX.blk KL6.out; have cP4 := (blk1 KP4).1; have cP5 := (blk1 (((Ext.refl v4).alloc (.cells #[.slice (some ⟨gq, 0, none⟩) ly cq] 39)).blk KP4)).1)
      refine hK.out _ _ (HSO6.out _ EX) (fun hHz8 => ?_)
      clear hK K9
      try simp only [Act.put, sA9, sZ9, sS9]
      refine wpAnyH_ready (rs := [8]) (by kernel_rfl) (by simp) ?_
      refine AllReadyH.cons rfl (fun K9 hK => ?_) AllReadyH.nil
      go_simp
      refine hK.out _ _ (HSO6.out _ (EX.trans ((Ext.refl v4).alloc _))) (fun hHz9 => ?_)
      clear hK K9
      try simp only [Act.put, sA9, sZ9, sS9]
      refine wpAnyH_ready (rs := [9]) (by kernel_rfl) (by simp) ?_
      refine AllReadyH.cons rfl (fun K9 hK => ?_) AllReadyH.nil
      (have EA : Ext v4 (v4.alloc (.cells #[.slice (some ⟨gq, 0, none⟩) ly cq] 39)) := (Ext.refl v4).alloc _; have EXA := EX.trans EA; have ho := ownsRow_ext HRO.out EXA; have htag := own_tag ho; refine step_append_at _ rfl (.tmp 36) (.tmp 44) 46 rfl W4.heap.size 39 iS (.slice none 0 0) 1 24 underSS hSi hSz hS1 hS2 rfl (by decide) (.slice p n c) n (al.map (fun a => a.1)) rfl ho ⟨v4.heap.size, 0, none⟩ 1 1 [.slice (some ⟨gq, 0, none⟩) ly cq] rfl rfl (one_cell rfl) (by intro u hu; simp at hu; subst hu; rfl) (by unfold maxLen; omega) (by omega) (by have := EXA.size_le; omega) ?_; intro v' w7 hown7 hgr7 hnil7 hat7; obtain ⟨gr, dr, rfl, hdr⟩ := own_form' hown7 (fun e => by have := (hnil7.1 e).2; omega); have KP7 := grownBy_blk hgr7 (EXA.blk KL6.out) HNB.out; have cP7 := (blk1 KP7).1; have fP7 := (blk1 KP7).2)
      refine hK.out _ _ (HSO7.out _ _ EXA hgr7) (fun hHz10 => ?_)
      clear hK K9
      try simp only [Act.put, sA9, sZ9, sS9]
      refine wpAnyH_ready (rs := [10]) (by kernel_rfl) (by simp) ?_
      refine AllReadyH.cons rfl (fun K9 hK => ?_) AllReadyH.nil
      go_simp
      refine hK.out _ _ (HSO8.out _ _ _ EXA hgr7) (fun hHz11 => ?_)
      clear hK K9
      try simp only [Act.put, sA9, sZ9, sS9]
      refine wpAnyH_done (by kernel_rfl) ?_ _
      have hfin := HSTEP.out _ _ _ _ _ _ _ EXA rfl hdo hd0 (by have := EA.size_le; omega) hgr7 hown7 hat7
      first | exact hfin | (gi_wp2; exact hfin)
     ·skip
      (go_simp; refine (difference_any ⟨gy, 0, none⟩ (some ⟨gx, 0, none⟩) ly dy dx y.1.2.2 x.1.2.2 _ HLY.out HLX.out (by omega) (HPYa.out.at.ext (Ext.refl wz).drew) (HPXa.out.at.ext (Ext.refl wz).drew) HBY.out HBX.out).mono ?_; rintro e v4 ⟨⟨gq, cq, rfl, hdo, hd0, hd1⟩, hE4⟩; have EX : Ext wz v4 := (Ext.refl wz).drew.trans hE4; have KP4 := EX.blk KL6.out; have cP4 := (blk1 KP4).1; have cP5 := (blk1 (((Ext.refl v4).alloc (.cells #[.slice (some ⟨gq, 0, none⟩) ly cq] 39)).blk KP4)).1)
      refine hK.out _ _ (HSO6.out _ EX) (fun hHz12 => ?_)
      clear hK K9
      try simp only [Act.put, sA9, sZ9, sS9]
      refine wpAnyH_ready (rs := [0, 8]) (by kernel_rfl) (by simp) ?_
      refine AllReadyH.cons rfl (fun K9 hK => ?_) (AllReadyH.cons rfl (fun K9 hK => ?_) AllReadyH.nil)
      ·skip
       go_simp
       refine hK.out _ _ (HSO6.out _ EX) (fun hHz13 => ?_)
       clear hK K9
       try simp only [Act.put, sA9, sZ9, sS9]
       refine wpAnyH_ready (rs := [8]) (by kernel_rfl) (by simp) ?_
       refine AllReadyH.cons rfl (fun K9 hK => ?_) AllReadyH.nil
       go_simp
       refine hK.out _ _ (HSO6.out _ (EX.trans ((Ext.refl v4).alloc _))) (fun hHz14 => ?_)
       clear hK K9
       try simp only [Act.put, sA9, sZ9, sS9]
       refine wpAnyH_ready (rs := [9]) (by kernel_rfl) (by simp) ?_
       refine AllReadyH.cons rfl (fun K9 hK => ?_) AllReadyH.nil
       (have EA : Ext v4 (v4.alloc (.cells #[.slice (some ⟨gq, 0, none⟩) ly cq] 39)) := (Ext.refl v4).alloc _; have EXA := EX.trans EA; have ho := ownsRow_ext HRO.out EXA; have htag := own_tag ho; refine step_append_at _ rfl (.tmp 36) (.tmp 44) 46 rfl W4.heap.size 39 iS (.slice none 0 0) 1 24 underSS hSi hSz hS1 hS2 rfl (by decide) (.slice p n c) n (al.map (fun a => a.1)) rfl ho ⟨v4.heap.size, 0, none⟩ 1 1 [.slice (some ⟨gq, 0, none⟩) ly cq] rfl rfl (one_cell rfl) (by intro u hu; simp at hu; subst hu; rfl) (by unfold maxLen; omega) (by omega) (by have := EXA.size_le; omega) ?_; intro v' w7 hown7 hgr7 hnil7 hat7; obtain ⟨gr, dr, rfl, hdr⟩ := own_form' hown7 (fun e => by have := (hnil7.1 e).2; omega); have KP7 := grownBy_blk hgr7 (EXA.blk KL6.out) HNB.out; have cP7 := (blk1 KP7).1; have fP7 := (blk1 KP7).2)
       refine hK.out _ _ (HSO7.out _ _ EXA hgr7) (fun hHz15 => ?_)
       clear hK K9
       try simp only [Act.put, sA9, sZ9, sS9]
       refine wpAnyH_ready (rs := [10]) (by kernel_rfl) (by simp) ?_
       refine AllReadyH.cons rfl (fun K9 hK => ?_) AllReadyH.nil
       go_simp
       refine hK.out _ _ (HSO8.out _ _ _ EXA hgr7) (fun hHz16 => ?_)
       clear hK K9
       try simp only [Act.put, sA9, sZ9, sS9]
       refine wpAnyH_done (by kernel_rfl) ?_ _
       have hfin := HSTEP.out _ _ _ _ _ _ _ EXA rfl hdo hd0 (by have := EA.size_le; omega) hgr7 hown7 hat7
       first | exact hfin | (gi_wp2; exact hfin)
      ·skip
       go_simp
       refine hK.out _ _ (HSO6.out _ (EX.trans ((Ext.refl v4).alloc _))) (fun hHz17 => ?_)
       clear hK K9
       try simp only [Act.put, sA9, sZ9, sS9]
       refine wpAnyH_ready (rs := [0]) (by kernel_rfl) (by simp) ?_
       refine AllReadyH.cons rfl (fun K9 hK => ?_) AllReadyH.nil
       go_simp
       refine hK.out _ _ (HSO6.out _ (EX.trans ((Ext.refl v4).alloc _))) (fun hHz18 => ?_)
       clear hK K9
       try simp only [Act.put, sA9, sZ9, sS9]
       refine wpAnyH_ready (rs := [9]) (by kernel_rfl) (by simp) ?_
       refine AllReadyH.cons rfl (fun K9 hK => ?_) AllReadyH.nil
       (have EA : Ext v4 (v4.alloc (.cells #[.slice (some ⟨gq, 0, none⟩) ly cq] 39)) := (Ext.refl v4).alloc _; have EXA := EX.trans EA; have ho := ownsRow_ext HRO.out EXA; have htag := own_tag ho; refine step_append_at _ rfl (.tmp 36) (.tmp 44) 46 rfl W4.heap.size 39 iS (.slice none 0 0) 1 24 underSS hSi hSz hS1 hS2 rfl (by decide) (.slice p n c) n (al.map (fun a => a.1)) rfl ho ⟨v4.heap.size, 0, none⟩ 1 1 [.slice (some ⟨gq, 0, none⟩) ly cq] rfl rfl (one_cell rfl) (by intro u hu; simp at hu; subst hu; rfl) (by unfold maxLen; omega) (by omega) (by have := EXA.size_le; omega) ?_; intro v' w7 hown7 hgr7 hnil7 hat7; obtain ⟨gr, dr, rfl, hdr⟩ := own_form' hown7 (fun e => by have := (hnil7.1 e).2; omega); have KP7 := grownBy_blk hgr7 (EXA.blk KL6.out) HNB.out; have cP7 := (blk1 KP7).1; have fP7 := (blk1 KP7).2)
       refine hK.out _ _ (HSO7.out _ _ EXA hgr7) (fun hHz19 => ?_)
       clear hK K9
       try simp only [Act.put, sA9, sZ9, sS9]
       refine wpAnyH_ready (rs := [10]) (by kernel_rfl) (by simp) ?_
       refine AllReadyH.cons rfl (fun K9 hK => ?_) AllReadyH.nil
       go_simp
       refine hK.out _ _ (HSO8.out _ _ _ EXA hgr7) (fun hHz20 => ?_)
       clear hK K9
       try simp only [Act.put, sA9, sZ9, sS9]
       refine wpAnyH_done (by kernel_rfl) ?_ _
       have hfin := HSTEP.out _ _ _ _ _ _ _ EXA rfl hdo hd0 (by have := EA.size_le; omega) hgr7 hown7 hat7
       first | exact hfin | (gi_wp2; exact hfin)
    ·have hB1 : ((iy : Int) == z) = false := by simpa using hB
     have HF : Hid (dsE es z (pre0 ++ [(i, j, dn)]) = dsE es z pre0) := hid (by rw [HDN.out, if_neg (fun h => hB h.2)]; simp)
     clear hA hB
     gi_wp2
     exact ⟨_, HGR0.out, HDI.out.keep HF.out HLV0.out⟩
   ·have hA1 : ((ix : Int) == z) = false := by simpa using hA
    have HF : Hid (dsE es z (pre0 ++ [(i, j, dn)]) = dsE es z pre0) := hid (by rw [HDN.out, if_neg (fun h => hA h.1)]; simp)
    clear hA
    gi_wp2
    exact ⟨_, HGR0.out, HDI.out.keep HF.out HLV0.out⟩
 case done =>
  rintro E ow X hE6 hEn ⟨row, p, n, c, al, rfl, hrow, hLV, hLB, han, has, hown, hblk, hrows, hnd⟩ hob hv6 hz hdf
  have hn2 : n ≤ 20000 := by
   have h2 := dl_len (kEv es) M hM120
   have h3 : (dsE es z (dpOf (kEv es) (prTo M M))).length ≤ (dpOf (kEv es) (prTo M M)).length := List.length_filterMap_le _ _
   rw [← has, List.length_map, han] at h3
   omega
  have HER : Hid (E ∉ row) := hid (fun h => hEn (by simp [h]))
  have EX : Hid (Ext w X) := hid (hLV.ext0 E4.out (fun b hb h => by omega))
  have HEE : Hid (w.heap.size ≤ E) := hid (by omega)
  have HWW : Hid (w.heap.size ≤ W4.heap.size) := hid (by omega)
  obtain ⟨y0, -⟩ := blk1 hLB
  have hLl := lt_of_block hLB
  have HLB := hid hLB; have XE := hid hdf; have HROW := hid hrow; have HAN := hid han; have HAS := hid has; have HOWN := hid hown; have HBLK := hid hblk; have HROWS := hid hrows; have HND := hid hnd
  have HLR : Hid (g0 + 1 + 1 ∉ row) := hid (fun h => by have := hrow _ h; omega)
  have HDS : Hid (dstF (dsE es z (dpOf (kEv es) (prTo M M))) = dstF (al.map (fun a => a.2))) := hid (by rw [has])
  rcases Nat.eq_zero_or_pos n with hn0 | hn0
  ·obtain rfl : al = [] := List.eq_nil_of_length_eq_zero (by omega)
   subst hn0
   clear hLB hdf hrow han has hown hblk hrows hnd hLV hob hv6 hz hE6 hEn HROWS HND HAN HAS
   gi_wp2_with (fail)
   refine ⟨trivial, ?_⟩
   refine (callsIn_wide.2 (sortF_none p c X)).mono ?_
   rintro e w5 ⟨rfl, rfl⟩
   gi_wp2_with (fail)
   refine ⟨trivial, ?_⟩
   refine (callsIn_wide.2 (compactF_nil p c _)).mono ?_
   rintro e w6 ⟨rfl, rfl⟩
   gi_wp2_with (fail)
   refine leaves_marks2 [E] _ (fun E' h => by simp at h; subst h; exact XE.out) (by simp) (fun W' hW' => ?_)
   refine ⟨.slice p 0 c, by simp [results, Tryz.results65, go_sem], ⟨_, (Value.slice p 0 c).ownBlock.toList, rfl, ?_, fun b hb => ?_⟩, hW'.ext0 EX.out (fun b hb h => by have := HEE.out; simp at h; omega)⟩
   ·rw [HDS.out]
    exact ⟨[], ownsRow_weak (row_lv HOWN.out hW' (fun b hb h => by simp at h; subst h; exact HER.out (HBLK.out _ hb))) HWW.out, fun b hb => by simp [hb], fun i xs hi => by simp [dstF] at hi⟩
   ·rw [Option.mem_toList] at hb
    have h1 := World.ownsRow.lt HOWN.out b hb
    have h2 := hW'.size
    have h3 := HWW.out
    omega
  ·obtain ⟨o, c', hoe, -⟩ := own_form' hown (by intro e; simp at e; omega)
   simp only [Value.slice.injEq] at hoe
   obtain ⟨rfl, -, rfl⟩ := hoe
   have HOR : Hid (o ∈ row) := hid (hblk o rfl)
   have HRW : Hid (∀ a ∈ al, RwA W4.heap.size o X a) := hid (fun a ha => by
    obtain ⟨g, cg, e, hg, hi⟩ := hrows a ha
    exact ⟨g, cg, e, by rw [e] at hi; exact types_ne hown hi, hi⟩)
   clear hLB hdf hrow han has hown hblk hrows hnd hLV hob hv6 hz hE6 hEn
   gi_wp2_with (fail)
   refine ⟨trivial, ?_⟩
   refine (callsIn_wide.2 (sortF_any W4.heap.size o n c al X HAN.out hn0 hn2 HOWN.out HRW.out)).mono ?_
   rintro e w5 ⟨rfl, al', hperm, hsort, hown5, hv5⟩
   have HL5 := hid (hv5.heap HLB.out (fun h => HLR.out (by rw [h]; exact HOR.out)))
   have han5 : al'.length = n := by rw [hperm.length_eq, HAN.out]
   have hrw5 : ∀ a ∈ al', RwA W4.heap.size o w5 a := fun a ha => (HRW.out a (hperm.mem_iff.1 ha)).lv hv5
   obtain ⟨y5, -⟩ := blk1 HL5.out
   have HP5 := hid hperm; have HS5 := hid hsort; have HO5 := hid hown5; have HV5 := hid hv5; have HR5 := hid hrw5; have HN5 := hid han5
   clear hperm hsort hown5 hv5 hrw5 han5 y0
   gi_wp2_with (fail)
   refine ⟨trivial, ?_⟩
   refine (callsIn_wide.2 (compactF_any W4.heap.size o n c al' w5 HN5.out hn2 HO5.out HR5.out)).mono ?_
   rintro e w6 ⟨⟨m, rfl, hm, hown6⟩, hv6⟩
   have hcs := cp_dst (fun a : EA => a.2) HP5.out HS5.out
   rw [HN5.out] at hcs
   have hsub := cpK_sub (fun a : EA => a.2) al' n
   rw [List.take_of_length_le (by rw [HN5.out]; omega)] at hsub
   obtain ⟨cs, hcsn⟩ : ∃ cs, cpK (fun a : EA => a.2) al' n = cs := ⟨_, rfl⟩
   rw [hcsn] at hm hown6 hcs hsub
   have hv06 : Lv (fun b => b = o) X w6 := HV5.out.trans hv6 (fun _ _ h => h) (fun _ _ h => h)
   have hmem : ∀ a ∈ cs, a ∈ al := fun a ha => HP5.out.mem_iff.1 (hsub.subset ha)
   have hrow6 : ∀ a ∈ cs, ∃ g cg, a.1 = .slice (some ⟨g, 0, none⟩) a.2.length cg ∧ IntsOwn W4.heap.size w6 a.1 a.2 := fun a ha => by
    obtain ⟨g, cg, e, -, hi⟩ := (HRW.out a (hmem a ha)).lv hv06
    exact ⟨g, cg, e, hi⟩
   have hnd6 : (cs.map (fun a => blkOf a.1)).Nodup := (hsub.map _).nodup ((HP5.out.map (fun a : EA => blkOf a.1)).nodup_iff.2 HND.out)
   have HPT := hid (ptsD_of hown6 hm hrow6 hnd6)
   have HCS := hid hcs
   have HIN : Hid (∀ b ∈ o :: cs.map (fun a => blkOf a.1), b ∈ row) := hid (fun b hb => by
    rcases List.mem_cons.1 hb with rfl | hb
    ·exact HOR.out
    ·obtain ⟨a, ha, rfl⟩ := List.mem_map.1 hb
     obtain ⟨g, cg, e, hg, -⟩ := HROWS.out a (hmem a ha)
     rw [e]; exact hg)
   have HLT : Hid (∀ b ∈ o :: cs.map (fun a => blkOf a.1), b < w6.heap.size) := hid (fun b hb => by
    rcases List.mem_cons.1 hb with rfl | hb
    ·exact (World.ownsRow.lt hown6 _ rfl).2
    ·obtain ⟨a, ha, rfl⟩ := List.mem_map.1 hb
     obtain ⟨g, cg, e, hi⟩ := hrow6 a ha
     rw [e] at hi ⊢
     exact (World.ownsRow.lt hi _ rfl).2)
   have XE6 := hid (hv06.heap XE.out (fun h => HER.out (by rw [h]; exact HOR.out)))
   have EX6 := hid (hv06.ext0 EX.out (fun b hb h => by have := HROW.out o HOR.out; have := HWW.out; omega))
   clear hm hown6 hcs hsub hv6 hv06 hmem hrow6 hnd6 hcsn y5
   gi_wp2_with (fail)
   refine leaves_marks2 [E] _ (fun E' h => by simp at h; subst h; exact XE6.out) (by simp) (fun W' hW' => ?_)
   refine ⟨.slice (some ⟨o, 0, none⟩) m c, by simp [results, Tryz.results65, go_sem], ⟨_, o :: cs.map (fun a => blkOf a.1), rfl, ?_, fun b hb => ?_⟩, hW'.ext0 EX6.out (fun b hb h => by have := HEE.out; simp at h; omega)⟩
   ·rw [HDS.out, ← HCS.out]
    exact ptsD_weak (HPT.out.lv (hW'.mono (fun b _ h => fun hb => HER.out (by simp at h; subst h; exact HIN.out _ hb)))) HWW.out
   ·have h1 := HROW.out b (HIN.out b hb)
    have h2 := HLT.out b hb
    have h3 := hW'.size
    have h4 := HWW.out
    omega
 case stop =>
  rintro E cd q ow X hE6 hEn hq h
  exact h.elim
end Go.Proofs.YtklehkkclojccaaGreat
namespace Go.Proofs.YtklehkkclojccaaGreat
open Go.Lib (hid)
open Go.RowKit Go.Maps
def carL (xss : List (List Int)) : List Int := (xss.map (carF 0)).filter (fun k => decide (0 ≤ k))
def carB (ars : List Arr) (ps : List Pt) (z : Int) : List Int := fl 4 (carL (distB ars ps z))
theorem carL_next (l : List (List Int)) (d : List Int) : carL (l ++ [d]) = carL l ++ (if 0 ≤ carF 0 d then [carF 0 d] else []) := by
 unfold carL
 rw [List.map_append, List.filter_append]
 by_cases h : 0 ≤ carF 0 d <;> simp [h]
theorem carF_lt : ∀ (xs : List Int) (k : Int), carF k xs = -1 ∨ (k ≤ carF k xs ∧ carF k xs < k + xs.length)
 | [], k => .inl rfl
 | x :: r, k => by
  simp only [carF, List.length_cons]
  split
  ·rcases carF_lt r (k + 1) with h | h
   ·exact .inl h
   ·exact .inr (by omega)
  ·exact .inr (by omega)
theorem carF_bd {d : List Int} (h : d.length ≤ 4) : -1 ≤ carF 0 d ∧ carF 0 d < 4 := by
 rcases carF_lt d 0 with e | e <;> omega
theorem carL_bd {xss : List (List Int)} (h : ∀ x ∈ xss, x.length ≤ 4) : ∀ k ∈ carL xss, 0 ≤ k ∧ k < ((4 : Nat) : Int) := by
 intro k hk
 unfold carL at hk
 rw [List.mem_filter, List.mem_map] at hk
 obtain ⟨⟨d, hd, rfl⟩, h0⟩ := hk
 have := carF_bd (h d hd)
 simp only [decide_eq_true_eq] at h0
 omega
theorem carL_len (xss : List (List Int)) : (carL xss).length ≤ xss.length := by
 unfold carL
 have := List.length_filter_le (fun k => decide (0 ≤ k)) (xss.map (carF 0))
 rwa [List.length_map] at this
theorem dist_len {ars : List Arr} {ps : List Pt} (z : Int) : (distB ars ps z).length ≤ 14400 := by
 unfold distB
 split
 ·have h1 := dstF_len (dsM ps z (depsB ars ps))
  have h2 := dsM_len ps z (depsB ars ps)
  have h3 := depsB_len ars ps
  omega
 ·simp
theorem dist_4 {ars : List Arr} {ps : List Pt} (z : Int) : ∀ x ∈ distB ars ps z, x.length ≤ 4 := by
 intro x hx
 unfold distB at hx
 split at hx
 ·rename_i hb
  rw [(dstF_is _).2] at hx
  unfold dsM at hx
  obtain ⟨d, -, hd⟩ := List.mem_filterMap.1 hx
  unfold dAt at hd
  split at hd
  ·rename_i a b ha hbb
   split at hd
   ·cases hd
    obtain ⟨h4, -, -, -⟩ := ins_pts hb (List.mem_of_getElem? ha) (List.mem_of_getElem? hbb)
    unfold subL
    rw [List.length_zipWith]
    omega
   ·cases hd
  ·cases hd
 ·simp at hx
set_option linter.unusedVariables false in
set_option linter.unusedSimpArgs false in
set_option maxRecDepth 100000 in
set_option maxHeartbeats 4000000 in
theorem specCarriedLevels_any (v : Value) (ars : List Arr) (ps : List Pt) (z : Int) (w : World) (hp : PrR w v ars ps) :
  Calls Tryz.prog 34 #[v, .int .i64 z] w fun e w' => (∃ v', e = .returned v' ∧ IntsOwn w.heap.size w' v' (carB ars ps z)) ∧ Ext w w' := by
 obtain ⟨qa, ca, qp, cp, rfl, hla, hlp, ha, hps⟩ := hp.parts
 obtain ⟨na, hna⟩ : ∃ n, ars.length = n := ⟨_, rfl⟩
 obtain ⟨np, hnp⟩ : ∃ n, ps.length = n := ⟨_, rfl⟩
 rw [hna, hnp] at hp ⊢
 have HP := hid hp
 have hmk : ∀ w : World, (Instr.makeSlice 98 (.int .i64 4) (.int .i64 4)).run Tryz.prog w = .ok (.slice (some ⟨w.heap.size, 0, none⟩) 4 4) (w.alloc (.cells ((flg 4 []).map Value.bool).toArray 4)) := fun w => make_flags 4 (by omega) w
 clear hp ha hps hna hnp
 go_enter Tryz.func34, Tryz.ntmps34
 go_wp2_with (fail)
 obtain ⟨W1, hW1⟩ : ∃ W1, w.alloc (.cells #[.slice qa na ca, .slice qp np cp] 32) = W1 := ⟨_, rfl⟩
 have E1 : Hid (Ext w W1) := hid (by rw [← hW1]; exact (Ext.refl w).alloc _)
 have HZ1 : Hid (W1.heap.size = w.heap.size + 1) := hid (by rw [← hW1]; simp)
 obtain ⟨W2, hW2⟩ : ∃ W2, W1.alloc (.cells ((flg 4 []).map Value.bool).toArray 4) = W2 := ⟨_, rfl⟩
 have E2 : Hid (Ext W1 W2) := hid (by rw [← hW2]; exact (Ext.refl W1).alloc _)
 have F2 : Hid (FlgAt W2 (w.heap.size + 1) (flg 4 [])) := hid (by rw [← hW2]; exact blk_at HZ1.out.symm)
 have HZ2 : Hid (W2.heap.size = w.heap.size + 2) := hid (by rw [← hW2]; simp [HZ1.out])
 try rw [hW1]
 try rw [hW2]
 clear hW1 hW2 hmk
 refine (specDistances_any _ ars ps z _ (HP.out.ext (E1.out.trans E2.out))).mono ?_
 rintro e w3 ⟨⟨v3, rfl, hd⟩, hE3⟩
 obtain ⟨q, c, rfl⟩ := hd.slice
 have hlen := dist_len (ars := ars) (ps := ps) z
 have h4 := dist_4 (ars := ars) (ps := ps) z
 have HCB : Hid (carB ars ps z = fl 4 (carL (distB ars ps z))) := hid rfl
 obtain ⟨xss, hxs⟩ : ∃ x, distB ars ps z = x := ⟨_, rfl⟩
 rw [hxs] at hd hlen h4 HCB ⊢
 obtain ⟨n, hn⟩ : ∃ n, xss.length = n := ⟨_, rfl⟩
 rw [hn] at hd hlen ⊢
 have HN := hid hn; have H4 := hid h4; have HD := hid hd; have E3 := hid (E2.out.trans hE3); have F3 : Hid (FlgAt w3 (w.heap.size + 1) (flg 4 [])) := hid (hE3.blk F2.out)
 clear hn h4 hd hE3 hxs
 obtain ⟨L, hL⟩ : ∃ L, w.heap.size + 1 = L := ⟨_, rfl⟩
 have HL := hid hL
 rw [hL] at F3 ⊢
 clear hL F2
 go_wp2
 go_loopw [7] (fun iv wr => ∃ k : Nat, k ≤ n ∧ iv = .int .i64 k ∧ FlgAt wr L (flg 4 (carL (xss.take k))) ∧ PtsOwn W2.heap.size wr (.slice q n c) xss ∧ Ext W1 wr) (fun iv _ => n - (intOf iv).toNat)
 case atStart => exact ⟨0, by omega, rfl, by simpa [carL] using F3.out, HD.out, E3.out⟩
 case round =>
  obtain ⟨k, hk, rfl, hf, hd, hE⟩ := hrel
  clear F3 HD
  have HF := hid hf; have HD := hid hd; have HE := hid hE
  clear hf hd hE
  by_cases hlt : k < n
  ·obtain ⟨x, hx⟩ := get_some (xs := xss) (k := k) (by rw [HN.out]; exact hlt)
   obtain ⟨g, u, rfl, cu, hu⟩ := HD.out.at2 hx
   obtain ⟨pu, cu', rfl⟩ := ints_form hu
   obtain ⟨lx, hlx⟩ : ∃ n, x.length = n := ⟨_, rfl⟩
   rw [hlx] at hu cu
   have hcb := carF_bd (H4.out x (List.mem_of_getElem? hx))
   have HNX : Hid (carL (xss.take (k + 1)) = carL (xss.take k) ++ (if 0 ≤ carF 0 x then [carF 0 x] else [])) := hid (by rw [take_next hx, carL_next])
   obtain ⟨lv, hlv⟩ : ∃ lv, carF 0 x = lv := ⟨_, rfl⟩
   rw [hlv] at hcb HNX
   have HU := hid hu; have HLX := hid hlx; have HLV := hid hlv
   have hkI : (k : Int) < (n : Int) := by omega
   clear hx hu hlx hlv
   go_wp2_with (fail)
   refine (specCarryLevel_any pu lx cu' x _ HLX.out HU.out.at).mono ?_
   rw [HLV.out]
   rintro e w5 ⟨rfl, hE5⟩
   have HF5 : Hid (FlgAt w5 L (flg 4 (carL (xss.take k)))) := hid (hE5.blk HF.out)
   have HD5 := hid (HD.out.ext hE5); have E5 := hid (HE.out.trans hE5)
   clear hE5 cu
   by_cases h0 : 0 ≤ lv
   ·obtain ⟨m, rfl⟩ : ∃ m : Nat, lv = m := ⟨lv.toNat, by omega⟩
    have hm4 : m < 4 := by omega
    have hb : decide ((0 : Int) ≤ (m : Int)) = true := by simp
    have hm4I : (m : Int) < 4 := by omega
    have hfz : w5.frozen? ⟨L, m, none⟩ = false := HF5.out.frozen
    have hcl := HF5.out.cell (flg_get (carL (xss.take k)) hm4)
    have HF6 : Hid (FlgAt (w5.setCell ⟨L, m, none⟩ (.bool true)) L (flg 4 (carL (xss.take (k + 1))))) := hid (by rw [HNX.out, if_pos h0, ← flg_set]; exact HF5.out.set true)
    have hlvs := lv_set w5 L m (.bool true)
    have HD6 := hid (PtsOwn.lvB HD5.out hlvs (fun b hb hbl e => by have := HZ2.out; have := HL.out; omega))
    have E6 := hid (E5.out.setCell (p := ⟨L, m, none⟩) (by show W1.heap.size ≤ L; have := HZ1.out; have := HL.out; omega) (.bool true))
    clear h0 hlvs
    go_wp2
    go_roundw
    case rel => exact ⟨k + 1, by omega, by go_num, HF6.out, HD6.out, E6.out⟩
    case measure => simp [intOf]; omega
   ·have hb : decide ((0 : Int) ≤ lv) = false := by simpa using h0
    have HF6 : Hid (FlgAt w5 L (flg 4 (carL (xss.take (k + 1))))) := hid (by rw [HNX.out, if_neg h0, List.append_nil]; exact HF5.out)
    go_wp2
    go_roundw
    case rel => exact ⟨k + 1, by omega, by go_num, HF6.out, HD5.out, E5.out⟩
    case measure => simp [intOf]; omega
  ·obtain rfl : k = n := by omega
   have HF2 : Hid (FlgAt wr L (flg 4 (carL xss))) := hid (by
    have h := HF.out
    rwa [List.take_of_length_le (by rw [HN.out]; omega)] at h)
   go_wp2_with (fail)
   refine (l5Flagged_any L 4 (carL xss) _ HF2.out (by omega)).mono ?_
   rintro e w7 ⟨⟨v7, rfl, hv7⟩, hE7⟩
   have hsz : w.heap.size ≤ wr.heap.size := (E1.out.trans HE.out).size_le
   have HV7 : Hid (IntsOwn w.heap.size w7 v7 (carB ars ps z)) := hid (by rw [HCB.out]; exact hv7.weak hsz)
   have E7 := hid ((E1.out.trans HE.out).trans hE7)
   clear hE7 hv7
   go_wp2
   go_ret
   exact ⟨⟨_, rfl, HV7.out⟩, E7.out⟩
set_option linter.unusedVariables false in
set_option linter.unusedSimpArgs false in
set_option maxRecDepth 100000 in
set_option maxHeartbeats 4000000 in
theorem carriedLevels_any (B : Nat) (es : List Ev) (mo : Option Nat) (T : Int) (q1 q2 : Option Addr) (n1 c1 M c2 : Nat) (z : Int) (w : World) (hM : es.length = M) (hM120 : M ≤ 120) (hev : EvsOwn B w (.slice q2 M c2) es)
  (hes : ∀ a ∈ es, ∀ b ∈ es, a.1.2.2.length ≤ 4 ∧ (∀ x ∈ a.1.2.2, -1000000 ≤ x ∧ x ≤ 1000000) ∧ (∀ x ∈ b.1.2.2, -1000000 ≤ x ∧ x ≤ 1000000) ∧ (a.1.1 = b.1.1 → b.1.2.2.length = a.1.2.2.length)) (xss : List (List Int)) (hxs : dstF (dsE es z (dpOf (kEv es) (prTo M M))) = xss) (hlen : xss.length ≤ 20000) :
  Calls Tryz.prog 73 #[.agg #[.map mo, .int .i64 T, .slice q1 n1 c1, .slice q2 M c2], .int .i64 z] w fun e w' => (∃ v', e = .returned v' ∧ IntsOwn w.heap.size w' v' (ascL (carL xss))) ∧ Ext w w' := by
 obtain ⟨i0, hi, hz0, hz1, hz2⟩ := info_parts infoInt
 have HM := hid hM; have HEV := hid hev; have HES := hid hes; have HXS := hid hxs
 clear hM hev hes hxs
 go_enter Tryz.func73, Tryz.ntmps73
 go_wp2_with (fail)
 obtain ⟨W1, hW1⟩ : ∃ W1, w.alloc (.cells #[.map mo, .int .i64 T, .slice q1 n1 c1, .slice q2 M c2] 70) = W1 := ⟨_, rfl⟩
 have E1 : Hid (Ext w W1) := hid (by rw [← hW1]; exact (Ext.refl w).alloc _)
 try rw [hW1]
 clear hW1
 refine (distances_any B es mo T q1 q2 n1 c1 M c2 z W1 HM.out hM120 (HEV.out.ext E1.out) HES.out).mono ?_
 rw [HXS.out]
 rintro e w2 ⟨⟨v2, own, rfl, hd, hob⟩, hE2⟩
 obtain ⟨q, c, rfl⟩ := hd.form
 obtain ⟨n, hn⟩ : ∃ n, xss.length = n := ⟨_, rfl⟩
 rw [hn] at hd hlen ⊢
 have HN := hid hn; have HD := hid hd; have E2 := hid (E1.out.trans hE2)
 clear hn hd hob hE2
 go_wp2
 go_loopw [5, 13] (fun ov iv wr => ∃ (k m : Nat) (po : Option Addr) (co : Nat), k ≤ n ∧ iv = .int .i64 k ∧ ov = .slice po m co ∧ (carL (xss.take k)).length = m ∧ wr.ownsRow w2.heap.size 3 1 (.slice po m co) m ((carL (xss.take k)).map (Value.int .i64)) ∧ Ext w2 wr) (fun _ iv _ => n - (intOf iv).toNat)
 case atStart => exact ⟨0, 0, _, _, by omega, rfl, rfl, by simp [carL], by simpa [carL] using World.ownsRow_nil w2 w2.heap.size 3 1, Ext.refl w2⟩
 case round =>
  obtain ⟨k, m, po, co, hk, rfl, rfl, hm, ho, hE⟩ := hrel
  have hmk : m ≤ k := by
   have h1 := carL_len (xss.take k)
   rw [List.length_take] at h1
   omega
  have HML := hid hm; have HO := hid ho; have HE := hid hE
  clear hm ho hE
  by_cases hlt : k < n
  ·obtain ⟨x, hx⟩ := get_some (xs := xss) (k := k) (by rw [HN.out]; exact hlt)
   obtain ⟨o, g, cg, rfl, cx, hix, -⟩ := (HD.out.lv HE.out.lv).get hx
   obtain ⟨lx, hlx⟩ : ∃ n, x.length = n := ⟨_, rfl⟩
   rw [hlx] at cx hix
   have HNX : Hid (carL (xss.take (k + 1)) = carL (xss.take k) ++ (if 0 ≤ carF 0 x then [carF 0 x] else [])) := hid (by rw [take_next hx, carL_next])
   obtain ⟨lv, hlv⟩ : ∃ lv, carF 0 x = lv := ⟨_, rfl⟩
   rw [hlv] at HNX
   have HIX := hid hix; have HLX := hid hlx; have HLV := hid hlv
   have hkI : (k : Int) < (n : Int) := by omega
   clear hx hix hlx hlv
   go_wp2_with (fail)
   refine (CarryLevel_any _ lx cg x _ HLX.out HIX.out).mono ?_
   rw [HLV.out]
   rintro e w5 ⟨rfl, hE5⟩
   have E5 := hid (HE.out.trans hE5); have HO5 := hid (ownsRow_ext HO.out hE5)
   clear hE5 cx
   by_cases h0 : 0 ≤ lv
   ·have hb : decide ((0 : Int) ≤ lv) = true := by simpa using h0
    have HNX2 : Hid (carL (xss.take (k + 1)) = carL (xss.take k) ++ [lv]) := hid (by rw [HNX.out, if_pos h0])
    have HOX := hid (ownsRow_ext HO5.out ((Ext.refl w5).alloc (.cells #[.int .i64 lv] 3)))
    have hsz : w2.heap.size ≤ w5.heap.size := E5.out.size_le
    clear h0
    go_wp2_with (at_builtin; refine wpList_append_own_at _ rfl (.tmp 21) (.tmp 23) 39 rfl w2.heap.size 3 i0 (.int .i64 0) 1 8 underSliceInt hi hz0 hz1 hz2 rfl (by decide) (.slice po m co) m _ rfl HOX.out ⟨w5.heap.size, 0, none⟩ 1 1 [.int .i64 lv] rfl rfl ?c1 ?c2 ?c3 ?c4 ?c5 ?_)
    case c1 => exact one_cell rfl
    case c2 => intro u hu; simp at hu; subst hu; rfl
    case c3 => unfold maxLen; omega
    case c4 => omega
    case c5 => simp; omega
    intro v' w6 hown' hgrow _ hat
    obtain ⟨po', co', rfl⟩ : ∃ po' co', v' = .slice po' (m + 1) co' := by
     rcases hown'.2 with ⟨rfl, hn0⟩ | ⟨g, cap, cur, e, _⟩
     ·exact absurd hn0 (by omega)
     ·exact ⟨_, cap, e⟩
    have HO6 : Hid (w6.ownsRow w2.heap.size 3 1 (.slice po' (m + 1) co') (m + 1) ((carL (xss.take (k + 1))).map (Value.int .i64))) := hid (by rw [HNX2.out, List.map_append]; simpa using hown')
    have HL6 : Hid ((carL (xss.take (k + 1))).length = m + 1) := hid (by rw [HNX2.out, List.length_append, HML.out]; rfl)
    have E6 := hid ((E5.out.alloc (.cells #[.int .i64 lv] 3)).grown hgrow (fun b hb => (HOX.out.lt b hb).1))
    clear hown' hgrow hat
    go_wp2
    go_roundw
    case rel => exact ⟨k + 1, m + 1, _, _, by omega, by go_num, rfl, HL6.out, HO6.out, E6.out⟩
    case measure => simp [intOf]; omega
   ·have hb : decide ((0 : Int) ≤ lv) = false := by simpa using h0
    have HNX2 : Hid (carL (xss.take (k + 1)) = carL (xss.take k)) := hid (by rw [HNX.out, if_neg h0, List.append_nil])
    have HO6 : Hid (w5.ownsRow w2.heap.size 3 1 (.slice po m co) m ((carL (xss.take (k + 1))).map (Value.int .i64))) := hid (by rw [HNX2.out]; exact HO5.out)
    have HL6 : Hid ((carL (xss.take (k + 1))).length = m) := hid (by rw [HNX2.out]; exact HML.out)
    go_wp2
    go_roundw
    case rel => exact ⟨k + 1, m, _, _, by omega, by go_num, rfl, HL6.out, HO6.out, E5.out⟩
    case measure => simp [intOf]; omega
  ·obtain rfl : k = n := by omega
   have hall : xss.take k = xss := List.take_of_length_le (by rw [HN.out]; omega)
   have HL6 : Hid ((carL xss).length = m) := hid (by rw [← hall]; exact HML.out)
   have HI6 : Hid (IntsOwn w2.heap.size wr (.slice po m co) (carL xss)) := hid (IntsOwn.mk (by rw [← hall]; exact HO.out) HL6.out)
   have EW := hid (E2.out.trans HE.out); have HS2 := hid E2.out.size_le
   clear hall
   go_wp2_with (fail)
   refine (ascending_any w2.heap.size po m co (carL xss) wr HL6.out HI6.out (by omega)).mono ?_
   rintro e w7 ⟨⟨v7, rfl, hv7⟩, hlv⟩
   have HV7 := hid (hv7.weak HS2.out)
   have E7 := hid (hlv.ext0 EW.out (fun b hb h => by have := HS2.out; omega))
   clear hv7 hlv
   go_wp2
   go_ret
   exact ⟨⟨_, rfl, HV7.out⟩, E7.out⟩
theorem events_of (v : Value) (ars : List Arr) (ps : List Pt) (z : Int) (B0 : Nat) (W1 w2 : World) (h0 : progB ars ps = false → v = .agg #[.map none, .int .i64 0, .slice none 0 0, .slice none 0 0]) (h1 : progB ars ps = true → PgR B0 W1 w2 v ars ps) :
  ∃ mo T q1 n1 c1 q2 M c2, ∃ es : List Ev, v = .agg #[.map mo, .int .i64 T, .slice q1 n1 c1, .slice q2 M c2] ∧ es.length = M ∧ M ≤ 120 ∧ EvsOwn B0 w2 (.slice q2 M c2) es ∧ dstF (dsE es z (dpOf (kEv es) (prTo M M))) = distB ars ps z ∧
   (∀ a ∈ es, ∀ b ∈ es, a.1.2.2.length ≤ 4 ∧ (∀ x ∈ a.1.2.2, -1000000 ≤ x ∧ x ≤ 1000000) ∧ (∀ x ∈ b.1.2.2, -1000000 ≤ x ∧ x ≤ 1000000) ∧ (a.1.1 = b.1.1 → b.1.2.2.length = a.1.2.2.length)) := by
 cases hb : progB ars ps with
 | false => exact ⟨_, _, _, _, _, _, _, _, [], h0 hb, rfl, by omega, ⟨[], World.ownsRow_nil _ _ _ _, fun i x h => by simp at h⟩, by unfold distB; rw [hb]; rfl, by simp⟩
 | true =>
  obtain ⟨Bm, D, q1, c1, q2, c2, rfl, -, -, -, -, he⟩ := h1 hb
  refine ⟨_, _, _, _, _, _, _, _, evsOf ars ps, rfl, rfl, by have := insM_120 hb; simpa [evsOf] using this, he, ?_, fun a ha b hbm => ?_⟩
  ·have h2 : dpOf (kEv (evsOf ars ps)) (prTo (evsOf ars ps).length (evsOf ars ps).length) = depsB ars ps := by rw [evs_cnt hb]; exact dl_deps hb
   have h3 : dsE (evsOf ars ps) z (depsB ars ps) = dsM ps z (depsB ars ps) := by
    unfold dsE dsM
    exact congrArg (fun f => (depsB ars ps).filterMap f) (funext (fun d => dEv_ins ars ps z d))
   rw [h2, h3]
   unfold distB
   rw [if_pos hb]
  ·unfold evsOf at ha hbm
   obtain ⟨y1, hy1, rfl⟩ := List.mem_map.1 ha
   obtain ⟨y2, hy2, rfl⟩ := List.mem_map.1 hbm
   exact ins_pts hb hy1 hy2
set_option linter.unusedVariables false in
set_option maxRecDepth 100000 in
set_option maxHeartbeats 2000000 in
theorem CarriedLevels_any (v : Value) (ars : List Arr) (ps : List Pt) (z : Int) (w : World) (hp : PrR w v ars ps) :
  Calls Tryz.prog 35 #[v, .int .i64 z] w fun e w' => (∃ v', e = .returned v' ∧ IntsOwn w.heap.size w' v' (carB ars ps z)) ∧ Ext w w' := by
 obtain ⟨qa, ca, qp, cp, rfl, -, -, ha, hps⟩ := hp.parts
 have HA := hid ha; have HPS := hid hps
 clear hp ha hps
 go_enter Tryz.func35, Tryz.ntmps35
 go_wp2_with (fail)
 obtain ⟨W1, hW1⟩ : ∃ W1, w.alloc (.cells #[.slice qa ars.length ca, .slice qp ps.length cp] 32) = W1 := ⟨_, rfl⟩
 have E1 : Hid (Ext w W1) := hid (by rw [← hW1]; exact (Ext.refl w).alloc _)
 try rw [hW1]
 clear hW1
 refine (programOf_any qa qp _ ca _ cp ars ps _ rfl rfl (HA.out.ext E1.out) (HPS.out.ext E1.out)).mono ?_
 rintro e w2 ⟨⟨v, rfl, h0, h1⟩, hE⟩
 have HE := hid (E1.out.trans hE)
 clear hE
 obtain ⟨mo, T, q1, n1, c1, q2, M, c2, es, rfl, hM, hM120, hev, hdl, hes⟩ := events_of v ars ps z _ W1 w2 h0 h1
 have hlen := dist_len (ars := ars) (ps := ps) z
 have HCB : Hid (ascL (carL (distB ars ps z)) = carB ars ps z) := hid (ascL_fl (carL_bd (dist_4 z)))
 obtain ⟨B0, hB0⟩ : ∃ B0, W1.heap.size = B0 := ⟨_, rfl⟩
 rw [hB0] at hev
 have HM := hid hM; have HEV := hid hev; have HDL := hid hdl; have HES := hid hes
 clear h0 h1 hM hev hdl hB0 hes
 have hHS := hid HE.out.size_le
 go_wp2_with (fail)
 obtain ⟨w3, hw3⟩ : ∃ w3, w2.alloc (.cells #[.map mo, .int .i64 T, .slice q1 n1 c1, .slice q2 M c2] 70) = w3 := ⟨_, rfl⟩
 have E23 : Ext w2 w3 := by rw [← hw3]; exact (Ext.refl w2).alloc _
 have E3 : Hid (Ext w w3) := hid (HE.out.trans E23)
 have HEV3 := hid (HEV.out.ext E23)
 try rw [hw3]
 clear hw3 E23
 refine (carriedLevels_any B0 es mo T q1 q2 n1 c1 M c2 z w3 HM.out hM120 HEV3.out HES.out (distB ars ps z) HDL.out (by omega)).mono ?_
 rintro e w5 ⟨⟨v5, rfl, hd⟩, hE5⟩
 rw [HCB.out] at hd
 have HD := hid (hd.weak E3.out.size_le); have E5 := hid (E3.out.trans hE5)
 clear hd hE5
 go_wp2
 go_ret
 exact ⟨⟨_, rfl, HD.out⟩, E5.out⟩
end Go.Proofs.YtklehkkclojccaaGreat
