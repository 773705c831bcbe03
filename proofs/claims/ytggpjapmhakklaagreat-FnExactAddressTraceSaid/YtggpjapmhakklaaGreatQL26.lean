/- The texts G1 G2, joined. No statement is proved here. -/
import Derived.Test.YtggpjapmhakklaaGreatQL27
set_option maxRecDepth 100000
set_option maxHeartbeats 8000000
set_option linter.unusedVariables false
set_option linter.unusedSimpArgs false
namespace Go.Proofs.YtggpjapmhakklaaGreat
open Go.Lib (hid)
open Go.RowKit
def SmallAr (a : Arr) : Prop := a.1.size ≤ 1048576 ∧ a.2.length ≤ 1048576
def SmallArs (ars : List Arr) : Prop := ars.length ≤ 1048576 ∧ ∀ a ∈ ars, SmallAr a
def SmallSt (s : St) : Prop := s.1.size ≤ 1048576 ∧ SmallAs s.2.1 ∧ SmallE s.2.2
def SmallSts (ss : List St) : Prop := ss.length ≤ 1048576 ∧ ∀ s ∈ ss, SmallSt s
def SmallPt (p : Pt) : Prop := SmallLs p.1 ∧ SmallSts p.2
def SmallPts (ps : List Pt) : Prop := ps.length ≤ 1048576 ∧ ∀ p ∈ ps, SmallPt p
theorem StmtsAt.elem' {w : World} {p : Option Addr} {n c i : Nat} {ss : List St} {s : St} (h : StmtsAt w (.slice p n c) ss) (hi : ss[i]? = some s) :
  ∃ b off q1 d1 q2 d2 q3 d3 q4 d4, p = some ⟨b, off, none⟩ ∧ w.cell? ⟨b, off + i * 9, none⟩ = some (.string s.1) ∧ w.cell? ⟨b, off + i * 9 + 1, none⟩ = some (.slice q1 s.2.1.length d1) ∧
   w.cell? ⟨b, off + i * 9 + 2, none⟩ = some (.int .i64 s.2.2.kind) ∧ w.cell? ⟨b, off + i * 9 + 3, none⟩ = some (.int .i64 s.2.2.num) ∧ w.cell? ⟨b, off + i * 9 + 4, none⟩ = some (.slice q2 s.2.2.ix.1.length d2) ∧ w.cell? ⟨b, off + i * 9 + 5, none⟩ = some (.int .i64 s.2.2.ix.2) ∧
   w.cell? ⟨b, off + i * 9 + 6, none⟩ = some (.string s.2.2.arr) ∧ w.cell? ⟨b, off + i * 9 + 7, none⟩ = some (.slice q3 s.2.2.subs.length d3) ∧ w.cell? ⟨b, off + i * 9 + 8, none⟩ = some (.slice q4 s.2.2.kids.length d4) ∧ b < w.heap.size ∧
   StR w (.agg #[.string s.1, .slice q1 s.2.1.length d1, .int .i64 s.2.2.kind, .int .i64 s.2.2.num, .slice q2 s.2.2.ix.1.length d2, .int .i64 s.2.2.ix.2, .string s.2.2.arr, .slice q3 s.2.2.subs.length d3, .slice q4 s.2.2.kids.length d4]) s.1 s.2.1 s.2.2 ∧ True := by
 obtain ⟨b, off, q1, d1, q2, d2, q3, d3, q4, d4, h1, h2, c0, c1, c2, c3, c4, c5, c6, c7, c8, hst⟩ := h.elem hi
 exact ⟨b, off, q1, d1, q2, d2, q3, d3, q4, d4, h1, c0, c1, c2, c3, c4, c5, c6, c7, c8, h2, hst, trivial⟩
end Go.Proofs.YtggpjapmhakklaaGreat
namespace Go.Proofs.YtggpjapmhakklaaGreat
open Go.Lib (hid)
open Go.RowKit
theorem StO.map {B B' : Nat} {w w' : World} {v : Value} {a : ByteArray} {su : List Aff} {e : Ex} (h : StO B w v a su e) (hi : ∀ {v xs}, IntsOwn B w v xs → IntsOwn B' w' v xs) (ha : ∀ {v xs}, AffsOwn B w v xs → AffsOwn B' w' v xs) (hr : ∀ {v n vs}, w.ownsRow B 101 7 v n vs → w'.ownsRow B' 101 7 v n vs) : StO B' w' v a su e := by
 obtain ⟨s, cs, h1, h2, h3, h4⟩ := h
 exact ⟨s, cs, h1, h2, ha h3, h4.map hi ha hr⟩
theorem StO.ext {B : Nat} {w w' : World} {v : Value} {a : ByteArray} {su : List Aff} {e : Ex} (h : StO B w v a su e) (hE : Ext w w') : StO B w' v a su e := h.map (fun h => h.ext hE) (fun h => h.ext hE) (fun h => ownsRow_ext h hE)
theorem StO.weak {B B' : Nat} {w : World} {v : Value} {a : ByteArray} {su : List Aff} {e : Ex} (h : StO B w v a su e) (hB : B' ≤ B) : StO B' w v a su e := h.map (fun h => h.weak hB) (fun h => h.weak hB) (fun h => ownsRow_weak h hB)
theorem StO.setOld {B : Nat} {w : World} {v : Value} {a : ByteArray} {su : List Aff} {e : Ex} (h : StO B w v a su e) {p : Addr} (hp : p.block < B) (u : Value) : StO B (w.setCell p u) v a su e := h.map (fun h => h.setOld hp u) (fun h => h.setOld hp u) (fun h => ownsRow_setCell_below h hp u)
theorem StO.nine {B : Nat} {w : World} {v : Value} {a : ByteArray} {su : List Aff} {e : Ex} (h : StO B w v a su e) : ∃ q1 n1 d1 kind num q2 n2 d2 k arr q3 n3 d3 q4 n4 d4, v = .agg #[.string a, .slice q1 n1 d1, .int .i64 kind, .int .i64 num, .slice q2 n2 d2, .int .i64 k, .string arr, .slice q3 n3 d3, .slice q4 n4 d4] := by
 obtain ⟨q1, d1, q2, d2, q3, d3, q4, d4, rfl, -, -, -⟩ := h.at.parts
 exact ⟨_, _, _, _, _, _, _, _, _, _, _, _, _, _, _, _, rfl⟩
def StmtsO (B : Nat) (w : World) (v : Value) (ss : List St) : Prop := ∃ p c, ∃ us : Nat → List Value, ∃ vs, v = .slice p ss.length c ∧ w.ownsRow B 103 9 v ss.length vs ∧
 (∀ (i : Nat) (s : St), ss[i]? = some s → ∀ (j : Nat) (v : Value), (us i)[j]? = some v → vs[i * 9 + j]? = some v) ∧ ∀ (i : Nat) (s : St), ss[i]? = some s → StO B w (.agg (us i).toArray) s.1 s.2.1 s.2.2
theorem StmtsO.map {B B' : Nat} {w w' : World} {v : Value} {ss : List St} (h : StmtsO B w v ss) (hi : ∀ {v xs}, IntsOwn B w v xs → IntsOwn B' w' v xs) (ha : ∀ {v xs}, AffsOwn B w v xs → AffsOwn B' w' v xs) (hr : ∀ {v n vs}, w.ownsRow B 101 7 v n vs → w'.ownsRow B' 101 7 v n vs) (hs : ∀ {v n vs}, w.ownsRow B 103 9 v n vs → w'.ownsRow B' 103 9 v n vs) : StmtsO B' w' v ss := by
 obtain ⟨p, c, us, vs, h1, h2, h3, h4⟩ := h
 exact ⟨p, c, us, vs, h1, hs h2, h3, fun i s hi' => (h4 i s hi').map hi ha hr⟩
theorem StmtsO.ext {B : Nat} {w w' : World} {v : Value} {ss : List St} (h : StmtsO B w v ss) (hE : Ext w w') : StmtsO B w' v ss := h.map (fun h => h.ext hE) (fun h => h.ext hE) (fun h => ownsRow_ext h hE) (fun h => ownsRow_ext h hE)
theorem StmtsO.weak {B B' : Nat} {w : World} {v : Value} {ss : List St} (h : StmtsO B w v ss) (hB : B' ≤ B) : StmtsO B' w v ss := h.map (fun h => h.weak hB) (fun h => h.weak hB) (fun h => ownsRow_weak h hB) (fun h => ownsRow_weak h hB)
theorem StmtsO.setOld {B : Nat} {w : World} {v : Value} {ss : List St} (h : StmtsO B w v ss) {p : Addr} (hp : p.block < B) (u : Value) : StmtsO B (w.setCell p u) v ss := h.map (fun h => h.setOld hp u) (fun h => h.setOld hp u) (fun h => ownsRow_setCell_below h hp u) (fun h => ownsRow_setCell_below h hp u)
theorem StmtsO.at {B : Nat} {w : World} {v : Value} {ss : List St} (h : StmtsO B w v ss) : StmtsAt w v ss := by
 obtain ⟨p, c, us, vs, rfl, ho, hv, hk⟩ := h
 have hl : ss.length ≤ 9223372036854775807 := by
  rcases ho.2 with ⟨_, hn⟩ | ⟨g, c, cur, _, _, _, h1, h2, _⟩
  ·omega
  ·unfold maxLen at h2; omega
 refine ⟨p, c, us, rfl, hl, fun i e hi => ?_, fun i e hi => (hk i e hi).at⟩
 have hlt := (List.getElem?_eq_some_iff.1 hi).1
 rcases ho.2 with ⟨_, hn⟩ | ⟨g, c, cur, hv', _, hgh, _⟩
 ·omega
 ·cases hv'
  refine ⟨g, 0, rfl, (Array.getElem?_eq_some_iff.1 hgh).1, fun j v hj => ?_⟩
  have h1 := hv i e hi j v hj
  have h2 := World.ownsRow.cells ho (g := g) rfl (i * 9 + j) v h1
  rw [Addr.add_lit, Nat.zero_add] at h2
  rw [Nat.zero_add]
  exact h2
def set9 (l : List Value) (m : Nat) (a0 a1 a2 a3 a4 a5 a6 a7 a8 : Value) : List Value := (((((((((l.set (m) a0).set (m + 1) a1).set (m + 2) a2).set (m + 3) a3).set (m + 4) a4).set (m + 5) a5).set (m + 6) a6).set (m + 7) a7).set (m + 8) a8)
theorem set9_out {l : List Value} {m i : Nat} {a0 a1 a2 a3 a4 a5 a6 a7 a8 : Value} (h : i < m ∨ m + 8 < i) : (set9 l m a0 a1 a2 a3 a4 a5 a6 a7 a8)[i]? = l[i]? := by
 unfold set9
 rw [List.getElem?_set_ne (by omega), List.getElem?_set_ne (by omega), List.getElem?_set_ne (by omega), List.getElem?_set_ne (by omega), List.getElem?_set_ne (by omega), List.getElem?_set_ne (by omega), List.getElem?_set_ne (by omega), List.getElem?_set_ne (by omega), List.getElem?_set_ne (by omega)]
theorem set9_in {l : List Value} {m j : Nat} {a0 a1 a2 a3 a4 a5 a6 a7 a8 v : Value} (hl : m + 8 < l.length) (h : [a0, a1, a2, a3, a4, a5, a6, a7, a8][j]? = some v) : (set9 l m a0 a1 a2 a3 a4 a5 a6 a7 a8)[m + j]? = some v := by
 have hj : j < 9 := (List.getElem?_eq_some_iff.1 h).1
 unfold set9
 match j, hj, h with
 | 0, _, h => simp at h; subst h; (repeat (rw [List.getElem?_set_ne (by omega)])); rw [Nat.add_zero, List.getElem?_set_self (by omega)]
 | 1, _, h => simp at h; subst h; (repeat (rw [List.getElem?_set_ne (by omega)])); rw [List.getElem?_set_self (by simp; omega)]
 | 2, _, h => simp at h; subst h; (repeat (rw [List.getElem?_set_ne (by omega)])); rw [List.getElem?_set_self (by simp; omega)]
 | 3, _, h => simp at h; subst h; (repeat (rw [List.getElem?_set_ne (by omega)])); rw [List.getElem?_set_self (by simp; omega)]
 | 4, _, h => simp at h; subst h; (repeat (rw [List.getElem?_set_ne (by omega)])); rw [List.getElem?_set_self (by simp; omega)]
 | 5, _, h => simp at h; subst h; (repeat (rw [List.getElem?_set_ne (by omega)])); rw [List.getElem?_set_self (by simp; omega)]
 | 6, _, h => simp at h; subst h; (repeat (rw [List.getElem?_set_ne (by omega)])); rw [List.getElem?_set_self (by simp; omega)]
 | 7, _, h => simp at h; subst h; (repeat (rw [List.getElem?_set_ne (by omega)])); rw [List.getElem?_set_self (by simp; omega)]
 | 8, _, h => simp at h; subst h; rw [List.getElem?_set_self (by simp; omega)]
def put9 (w : World) (g m : Nat) (a0 a1 a2 a3 a4 a5 a6 a7 a8 : Value) : World := (((((((((w.setCell ⟨g, m, none⟩ a0).setCell ⟨g, m + 1, none⟩ a1).setCell ⟨g, m + 2, none⟩ a2).setCell ⟨g, m + 3, none⟩ a3).setCell ⟨g, m + 4, none⟩ a4).setCell ⟨g, m + 5, none⟩ a5).setCell ⟨g, m + 6, none⟩ a6).setCell ⟨g, m + 7, none⟩ a7).setCell ⟨g, m + 8, none⟩ a8)
theorem put9_own {B g n cap m : Nat} {e : TypeId} {w : World} {vs : List Value} {a0 a1 a2 a3 a4 a5 a6 a7 a8 : Value} (h : w.ownsRow B e 9 (.slice (some ⟨g, 0, none⟩) n cap) n vs) : (put9 w g m a0 a1 a2 a3 a4 a5 a6 a7 a8).ownsRow B e 9 (.slice (some ⟨g, 0, none⟩) n cap) n (set9 vs m a0 a1 a2 a3 a4 a5 a6 a7 a8) :=
 (((((((((h.stored (m) a0).1.stored (m + 1) a1).1.stored (m + 2) a2).1.stored (m + 3) a3).1.stored (m + 4) a4).1.stored (m + 5) a5).1.stored (m + 6) a6).1.stored (m + 7) a7).1.stored (m + 8) a8).1
theorem put9_sto {B g m : Nat} {w : World} {v : Value} {s : St} {a0 a1 a2 a3 a4 a5 a6 a7 a8 : Value} (h : StO B w v s.1 s.2.1 s.2.2) (hg : g < B) : StO B (put9 w g m a0 a1 a2 a3 a4 a5 a6 a7 a8) v s.1 s.2.1 s.2.2 :=
 (((((((((h.setOld (p := ⟨g, m, none⟩) hg a0).setOld (p := ⟨g, m + 1, none⟩) hg a1).setOld (p := ⟨g, m + 2, none⟩) hg a2).setOld (p := ⟨g, m + 3, none⟩) hg a3).setOld (p := ⟨g, m + 4, none⟩) hg a4).setOld (p := ⟨g, m + 5, none⟩) hg a5).setOld (p := ⟨g, m + 6, none⟩) hg a6).setOld (p := ⟨g, m + 7, none⟩) hg a7).setOld (p := ⟨g, m + 8, none⟩) hg a8)
theorem put9_ext {W w : World} {g m : Nat} {a0 a1 a2 a3 a4 a5 a6 a7 a8 : Value} (h : Ext W w) (hg : W.heap.size ≤ g) : Ext W (put9 w g m a0 a1 a2 a3 a4 a5 a6 a7 a8) :=
 (((((((((h.setCell (p := ⟨g, m, none⟩) hg a0).setCell (p := ⟨g, m + 1, none⟩) hg a1).setCell (p := ⟨g, m + 2, none⟩) hg a2).setCell (p := ⟨g, m + 3, none⟩) hg a3).setCell (p := ⟨g, m + 4, none⟩) hg a4).setCell (p := ⟨g, m + 5, none⟩) hg a5).setCell (p := ⟨g, m + 6, none⟩) hg a6).setCell (p := ⟨g, m + 7, none⟩) hg a7).setCell (p := ⟨g, m + 8, none⟩) hg a8)
def RowS (B Bi g n : Nat) (es : List St) (k : Nat) (w : World) : Prop := ∃ (vs : List Value) (us : Nat → List Value), w.ownsRow B 103 9 (.slice (some ⟨g, 0, none⟩) n n) n vs ∧
 ∀ (i : Nat) (e : St), i < k → es[i]? = some e → (us i).length = 9 ∧ (∀ (j : Nat) (v : Value), (us i)[j]? = some v → vs[i * 9 + j]? = some v) ∧ StO Bi w (.agg (us i).toArray) e.1 e.2.1 e.2.2
theorem RowS.open' {B Bi g n k : Nat} {es : List St} {w w1 : World} (h : RowS B Bi g n es k w) (hE : Ext w w1) (hk : k < n) :
  (∀ j, w1.frozen? ⟨g, k * 9 + j, none⟩ = false) ∧ (∀ j, j < 9 → ∃ v, w1.cell? ⟨g, k * 9 + j, none⟩ = some v) ∧ B ≤ g ∧ g < w1.heap.size := by
 obtain ⟨vs, us, ho, _⟩ := h
 have ho := ownsRow_ext ho hE
 have hl := ho.1
 have := ho.lt g rfl
 refine ⟨fun j => ho.frozenAt _, fun j hj => ?_, this.1, this.2⟩
 rw [ho.cellAt (k * 9 + j) (by omega)]; exact get_some (by omega)
theorem RowS.step {B g n k : Nat} {es : List St} {w w1 : World} {a0 a1 a2 a3 a4 a5 a6 a7 a8 : Value} {x : St} (h : RowS B (g + 1) g n es k w) (hE : Ext w w1) (hk : k < n) (hx : es[k]? = some x) (hr : StO (g + 1) w1 (.agg #[a0, a1, a2, a3, a4, a5, a6, a7, a8]) x.1 x.2.1 x.2.2) :
  RowS B (g + 1) g n es (k + 1) (put9 w1 g (k * 9) a0 a1 a2 a3 a4 a5 a6 a7 a8) := by
 obtain ⟨vs, us, ho, hv⟩ := h
 have ho := ownsRow_ext ho hE
 have hl := ho.1
 refine ⟨_, fun i => if i = k then [a0, a1, a2, a3, a4, a5, a6, a7, a8] else us i, put9_own ho, fun i y hi hy => ?_⟩
 by_cases e : i = k
 ·subst e
  rw [hx] at hy; cases hy
  simp only [if_true]
  exact ⟨rfl, fun j v hj => set9_in (by omega) hj, put9_sto hr (by omega)⟩
 ·simp only [if_neg e]
  obtain ⟨h9, h0, h1⟩ := hv i y (by omega) hy
  refine ⟨h9, fun j v hj => ?_, put9_sto (h1.ext hE) (by omega)⟩
  have hj9 : j < 9 := by rw [← h9]; exact (List.getElem?_eq_some_iff.1 hj).1
  rw [set9_out (by omega)]
  exact h0 j v hj
theorem RowS.done {B g n : Nat} {es : List St} {w : World} (h : RowS B (g + 1) g n es n w) (hn : es.length = n) (hB : B ≤ g) : StmtsO B w (.slice (some ⟨g, 0, none⟩) n n) es := by
 obtain ⟨vs, us, ho, hv⟩ := h
 refine ⟨_, n, us, vs, by rw [hn], by rw [hn]; exact ho, fun i e hi j v hj => ?_, fun i e hi => ?_⟩
 ·exact (hv i e (by rw [← hn]; exact (List.getElem?_eq_some_iff.1 hi).1) hi).2.1 j v hj
 ·exact (hv i e (by rw [← hn]; exact (List.getElem?_eq_some_iff.1 hi).1) hi).2.2.weak (by omega)
theorem infoStmt : (Tryz.prog.info? 103).map (fun i => (i.zero, i.size, i.bytes)) = some (some (.agg #[.string ⟨#[]⟩, .slice none 0 0, .int .i64 0, .int .i64 0, .slice none 0 0, .int .i64 0, .string ⟨#[]⟩, .slice none 0 0, .slice none 0 0]), 9, 152) := by kernel_rfl
theorem toStmtS_any (p : Option Addr) (n c : Nat) (es : List St) (w : World) (hn : es.length = n) (hs : StmtsAt w (.slice p n c) es) (hsm : SmallSts es) :
  Calls Tryz.prog 71 #[.slice p n c] w fun e w' => ∃ q d, e = .returned (.slice q n d) ∧ StmtsO w.heap.size w' (.slice q n d) es ∧ Ext w w' := by
 have hm : n ≤ 1048576 := by rw [← hn]; exact hsm.1
 obtain ⟨i0, hi, hz0, hz1, hz2⟩ := info_parts infoStmt
 have HS := hid hs; have HN := hid hn; have HSM := hid hsm; clear hs hn hsm
 go_enter Tryz.func71, Tryz.ntmps71
 go_wp2_with (at_make; refine wpList_make_full _ rfl _ _ 89 rfl w.heap.size 103 i0 (.agg #[.string ⟨#[]⟩, .slice none 0 0, .int .i64 0, .int .i64 0, .slice none 0 0, .int .i64 0, .string ⟨#[]⟩, .slice none 0 0, .slice none 0 0]) 9 Tryz.underlying89 hi hz0 hz1 _ _ _ _ n rfl rfl rfl rfl ?b2 ?b3 (Nat.le_refl _) ?_)
 case b2 => rw [hz2]; omega
 case b3 => unfold maxLen; omega
 intro w1 hown0 hgrow0
 have HP := hid (show RowS w.heap.size (w.heap.size + 1) w.heap.size n es 0 w1 from ⟨_, fun _ => [], hown0, fun i x hi => absurd hi (by omega)⟩)
 have HG := hid ((Ext.refl w).grown hgrow0 (fun k h => by cases h))
 clear hown0 hgrow0 hi hz0 hz1 hz2
 go_wp2
 go_loopw [4] (fun i wr => ∃ k : Nat, k ≤ n ∧ i = .int .i64 k ∧ RowS w.heap.size (w.heap.size + 1) w.heap.size n es k wr ∧ Ext w wr) (fun i _ => n - (intOf i).toNat)
 case atStart => exact ⟨0, by omega, rfl, HP.out, HG.out⟩
 case round =>
  obtain ⟨k, hk, rfl, hrow, hE⟩ := hrel
  by_cases hlt : k < n
  ·obtain ⟨x, hx⟩ := get_some (xs := es) (k := k) (by rw [HN.out]; exact hlt)
   obtain ⟨b, off, q1, d1, q2, d2, q3, d3, q4, d4, rfl, c0, c1, c2, c3, c4, c5, c6, c7, c8, hb, hr, -⟩ := (HS.out.ext hE).elem' hx
   have hsx := HSM.out.2 x (List.mem_of_getElem? hx)
   have HX := hid hx; have HR := hid hr; have HW := hid hrow; have HSX := hid hsx
   clear hx hr hrow hsx
   go_wp2_with (fail)
   refine (toStmt_any _ x.1 x.2.1 x.2.2 wr HR.out HSX.out.2.1 HSX.out.2.2).mono ?_
   rintro e w2 ⟨⟨v2, rfl, hv⟩, hE1⟩
   obtain ⟨p1, n1, e1, kind, num, p2, n2, e2, k', arr', p3, n3, e3, p4, n4, e4, rfl⟩ := hv.nine
   obtain ⟨hf, hce, hg0, hg1⟩ := HW.out.open' hE1 hlt
   have f0 := hf 0; have f1 := hf 1; have f2 := hf 2; have f3 := hf 3; have f4 := hf 4; have f5 := hf 5; have f6 := hf 6; have f7 := hf 7; have f8 := hf 8
   obtain ⟨v0, d0'⟩ := hce 0 (by omega); obtain ⟨v1, d1'⟩ := hce 1 (by omega); obtain ⟨v2, d2'⟩ := hce 2 (by omega); obtain ⟨v3, d3'⟩ := hce 3 (by omega); obtain ⟨v4, d4'⟩ := hce 4 (by omega); obtain ⟨v5, d5'⟩ := hce 5 (by omega); obtain ⟨v6, d6'⟩ := hce 6 (by omega); obtain ⟨v7, d7'⟩ := hce 7 (by omega); obtain ⟨v8, d8'⟩ := hce 8 (by omega)
   rw [Nat.add_zero] at f0 d0'
   have HV := hid (hv.weak (B' := w.heap.size + 1) (by have := (HW.out.open' (Ext.refl wr) hlt).2.2.2; omega))
   have HE1 := hid hE1
   have HST := hid (HW.out.step HE1.out hlt HX.out HV.out)
   have HEX := hid (put9_ext (m := k * 9) (a0 := .string x.1) (a1 := .slice p1 n1 e1) (a2 := .int .i64 kind) (a3 := .int .i64 num) (a4 := .slice p2 n2 e2) (a5 := .int .i64 k') (a6 := .string arr') (a7 := .slice p3 n3 e3) (a8 := .slice p4 n4 e4) (hE.trans HE1.out) (Nat.le_refl w.heap.size))
   unfold put9 at HST HEX
   clear hv hE1 c0 c1 c2 c3 c4 c5 c6 c7 c8 hf hce
   go_wp2
   go_roundw
   case rel => exact ⟨k + 1, by omega, by go_num, HST.out, HEX.out⟩
   case measure => simp [intOf]; omega
  ·have e : k = n := by omega
   subst e
   have HW := hid hrow; clear hrow
   go_wp2
   go_ret
   exact ⟨_, _, rfl, HW.out.done HN.out (Nat.le_refl _), hE⟩
def ArrO (B : Nat) (w : World) (u0 u1 : Value) (a : Arr) : Prop := u0 = .string a.1 ∧ a.1.size ≤ 9223372036854775807 ∧ IntsOwn B w u1 a.2
def ArrsO : Nat → World → Value → List Arr → Prop := PairsOwn 106 ArrO
def PartO (B : Nat) (w : World) (u0 u1 : Value) (a : Pt) : Prop := LoopsOwn B w u0 a.1 ∧ StmtsO B w u1 a.2
def PartsO : Nat → World → Value → List Pt → Prop := PairsOwn 91 PartO
theorem ArrO.ext {B : Nat} {w w' : World} {u0 u1 : Value} {a : Arr} (h : ArrO B w u0 u1 a) (hE : Ext w w') : ArrO B w' u0 u1 a := ⟨h.1, h.2.1, h.2.2.ext hE⟩
theorem ArrO.weak {B B' : Nat} {w : World} {u0 u1 : Value} {a : Arr} (h : ArrO B w u0 u1 a) (hB : B' ≤ B) : ArrO B' w u0 u1 a := ⟨h.1, h.2.1, h.2.2.weak hB⟩
theorem ArrO.setOld {B : Nat} {w : World} {u0 u1 : Value} {a : Arr} (h : ArrO B w u0 u1 a) {p : Addr} (hp : p.block < B) (u : Value) : ArrO B (w.setCell p u) u0 u1 a := ⟨h.1, h.2.1, h.2.2.setOld hp u⟩
theorem PartO.ext {B : Nat} {w w' : World} {u0 u1 : Value} {a : Pt} (h : PartO B w u0 u1 a) (hE : Ext w w') : PartO B w' u0 u1 a := ⟨h.1.ext hE, h.2.ext hE⟩
theorem PartO.weak {B B' : Nat} {w : World} {u0 u1 : Value} {a : Pt} (h : PartO B w u0 u1 a) (hB : B' ≤ B) : PartO B' w u0 u1 a := ⟨h.1.weak hB, h.2.weak hB⟩
theorem PartO.setOld {B : Nat} {w : World} {u0 u1 : Value} {a : Pt} (h : PartO B w u0 u1 a) {p : Addr} (hp : p.block < B) (u : Value) : PartO B (w.setCell p u) u0 u1 a := ⟨h.1.setOld hp u, h.2.setOld hp u⟩
theorem ArrsO.at {B : Nat} {w : World} {v : Value} {xs : List Arr} (h : ArrsO B w v xs) : ArrsAt w v xs := PairsOwn.at' (fun h => ⟨h.1, h.2.1, h.2.2.at⟩) h
theorem PartsO.at {B : Nat} {w : World} {v : Value} {xs : List Pt} (h : PartsO B w v xs) : PartsAt w v xs := PairsOwn.at' (fun h => ⟨h.1.at, h.2.at⟩) h
theorem ArrsO.ext {B : Nat} {w w' : World} {v : Value} {xs : List Arr} (h : ArrsO B w v xs) (hb : Ext w w') : ArrsO B w' v xs := PairsOwn.map' h (fun _ h => ownsRow_ext h hb) (fun h => h.ext hb)
theorem PartsO.ext {B : Nat} {w w' : World} {v : Value} {xs : List Pt} (h : PartsO B w v xs) (hb : Ext w w') : PartsO B w' v xs := PairsOwn.map' h (fun _ h => ownsRow_ext h hb) (fun h => h.ext hb)
theorem ArrsO.weak {B B' : Nat} {w : World} {v : Value} {xs : List Arr} (h : ArrsO B w v xs) (hB : B' ≤ B) : ArrsO B' w v xs := PairsOwn.map' h (fun _ h => ownsRow_weak h hB) (fun h => h.weak hB)
theorem PartsO.weak {B B' : Nat} {w : World} {v : Value} {xs : List Pt} (h : PartsO B w v xs) (hB : B' ≤ B) : PartsO B' w v xs := PairsOwn.map' h (fun _ h => ownsRow_weak h hB) (fun h => h.weak hB)
theorem ArrsO.setOld {B : Nat} {w : World} {v : Value} {xs : List Arr} (h : ArrsO B w v xs) {p : Addr} (hp : p.block < B) (u : Value) : ArrsO B (w.setCell p u) v xs := PairsOwn.map' h (fun _ h => ownsRow_setCell_below h hp u) (fun h => h.setOld hp u)
theorem PartsO.setOld {B : Nat} {w : World} {v : Value} {xs : List Pt} (h : PartsO B w v xs) {p : Addr} (hp : p.block < B) (u : Value) : PartsO B (w.setCell p u) v xs := PairsOwn.map' h (fun _ h => ownsRow_setCell_below h hp u) (fun h => h.setOld hp u)
theorem infoArray : (Tryz.prog.info? 106).map (fun i => (i.zero, i.size, i.bytes)) = some (some (.agg #[.string ⟨#[]⟩, .slice none 0 0]), 2, 40) := by kernel_rfl
theorem infoPart : (Tryz.prog.info? 91).map (fun i => (i.zero, i.size, i.bytes)) = some (some (.agg #[.slice none 0 0, .slice none 0 0]), 2, 48) := by kernel_rfl
theorem toArray_any (x : Arr) (s : Value) (w : World) (_ha : x.1.size ≤ 9223372036854775807) (hs : IntsAt w s x.2) (h1 : SmallAr x) :
  Calls Tryz.prog 40 #[.agg #[.string x.1, s]] w fun e w' => ∃ q d, e = .returned (.agg #[.string x.1, .slice q x.2.length d]) ∧ IntsOwn w.heap.size w' (.slice q x.2.length d) x.2 ∧ Ext w w' := by
 obtain ⟨p, c, rfl, hm, -⟩ := id hs
 have HS := hid hs; have H1 := hid h1; clear hs h1
 generalize hga : w.heap.size = ga at *
 have HGA := hid hga; clear hga
 go_enter Tryz.func40, Tryz.ntmps40
 go_wp2_with (fail)
 refine (toIntS_any _ x.2 _ (HS.out.ext ((((Ext.refl w).alloc _).alloc _).alloc _)) H1.out.2).mono ?_
 rintro e W1 ⟨q, d, rfl, hv, hE⟩
 have E1 : Hid (Ext w W1) := hid (((((Ext.refl w).alloc _).alloc _).alloc _).trans hE)
 have BR := hE.blk (g := ga + 1) (blk_old (blk_at (by simp [HGA.out])))
 have BO := hE.blk (g := ga + 1 + 1) (blk_at (by simp [HGA.out]))
 have hl := lt_of_block BO
 have HV := hid (hv.weak (B' := ga + 1 + 1 + 1) (by simp [HGA.out]))
 obtain ⟨o0, o1, f0, f1⟩ := blk2 BO
 obtain ⟨r0, r1, e0, e1⟩ := blk2 BR
 clear hE hv
 rw [HGA.out]
 go_wp2
 refine bodyPost_ret (v := .agg #[.string x.1, .slice q x.2.length d]) (by simp [results, Tryz.results40, go_sem, r0, r1]) rfl ⟨_, _, rfl, ?_, ?_⟩
 ·refine IntsOwn.weak (B := ga + 1 + 1 + 1) ?_ (by omega)
  repeat (refine IntsOwn.setOld ?_ (by simp <;> omega) _)
  exact HV.out
 ·repeat (refine Ext.setCell ?_ (by rw [HGA.out]; simp <;> omega) _)
  exact E1.out
theorem toArrayS_any (p : Option Addr) (n c : Nat) (zs : List Arr) (w : World) (hn : zs.length = n) (hs : ArrsAt w (.slice p n c) zs) (hsm : SmallArs zs) :
  Calls Tryz.prog 21 #[.slice p n c] w fun e w' => ∃ q d, e = .returned (.slice q n d) ∧ ArrsO w.heap.size w' (.slice q n d) zs ∧ Ext w w' := by
 have hm : n ≤ 1048576 := by rw [← hn]; exact hsm.1
 obtain ⟨i0, hi, hz0, hz1, hz2⟩ := info_parts infoArray
 have HS := hid hs; clear hs
 have HN := hid hn; clear hn
 have HSM := hid hsm; clear hsm
 go_enter Tryz.func21, Tryz.ntmps21
 go_wp2_with (at_make; refine wpList_make_full _ rfl _ _ 29 rfl w.heap.size 106 i0 (.agg #[.string ⟨#[]⟩, .slice none 0 0]) 2 Tryz.underlying29 hi hz0 hz1 _ _ _ _ n rfl rfl rfl rfl ?b2 ?b3 (Nat.le_refl _) ?_)
 case b2 => rw [hz2]; omega
 case b3 => unfold maxLen; omega
 intro w0 hown0 hgrow0
 have HP := hid (show PairRow 106 ArrO w.heap.size (w.heap.size + 1) w.heap.size n zs 0 w0 from ⟨_, hown0, fun i x hi => absurd hi (by omega)⟩)
 have HG := hid ((Ext.refl w).grown hgrow0 (fun k h => by cases h))
 clear hown0 hgrow0 hi hz0 hz1 hz2
 go_wp2
 go_loopw [4] (fun i wr => ∃ k : Nat, k ≤ n ∧ i = .int .i64 k ∧ PairRow 106 ArrO w.heap.size (w.heap.size + 1) w.heap.size n zs k wr ∧ Ext w wr) (fun i _ => n - (intOf i).toNat)
 case atStart => exact ⟨0, by omega, rfl, HP.out, HG.out⟩
 case round =>
  obtain ⟨k, hk, rfl, hrow, hE⟩ := hrel
  by_cases hlt : k < n
  ·obtain ⟨x, hx⟩ := get_some (xs := zs) (k := k) (by rw [HN.out]; exact hlt)
   obtain ⟨b, off, q, m, rfl, c0, c1, hb, hr, hr'⟩ := (HS.out.ext hE).elem hx
   have hxs := HSM.out.2 x (List.mem_of_getElem? hx)
   have HX := hid hx; have HR := hid hr; have HR' := hid hr'; have HW := hid hrow; have HXs := hid hxs; clear hx hr hr' hrow hxs
   go_wp2_with (fail)
   refine (toArray_any x _ _ HR.out HR'.out HXs.out).mono ?_
   rintro e w1 ⟨q1, m1, rfl, hv, hE1⟩
   obtain ⟨f0, f1, ⟨v0, d0⟩, ⟨v1, d1⟩, hg0, hg1⟩ := HW.out.open' hE1 hlt
   have hB : w.heap.size + 1 ≤ wr.heap.size := by have := HW.out.open' (Ext.refl wr) hlt; omega
   have HV := hid (ArrO.weak (B' := w.heap.size + 1) (show ArrO wr.heap.size w1 _ _ x from ⟨rfl, HR.out, hv⟩) hB)
   have HE1 := hid hE1
   clear hE1 c0 c1
   go_wp2
   go_roundw
   case rel => exact ⟨k + 1, by omega, by go_num, PairRow.step (fun h hb => h.ext hb) (fun h hp => h.setOld hp _) HW.out HE1.out hlt HX.out HV.out, ((hE.trans HE1.out).setCell (Nat.le_refl _) _).setCell (Nat.le_refl _) _⟩
   case measure => simp [intOf]; omega
  ·go_wp2
   go_ret
   have e : k = n := by omega
   subst e
   exact ⟨_, _, rfl, PairRow.done (fun h hB => h.weak hB) hrow HN.out (Nat.le_refl _), hE⟩
theorem toPart_any (s t : Value) (x : List Lp × List St) (w : World) (hs : LoopsAt w s x.1) (ht : StmtsAt w t x.2) (h1 : SmallLs x.1) (h2 : SmallSts x.2) :
  Calls Tryz.prog 41 #[.agg #[s, t]] w fun e w' => ∃ p c q d, e = .returned (.agg #[.slice p x.1.length c, .slice q x.2.length d]) ∧ LoopsOwn w.heap.size w' (.slice p x.1.length c) x.1 ∧ StmtsO w.heap.size w' (.slice q x.2.length d) x.2 ∧ Ext w w' := by
 obtain ⟨p, c, rfl, hm⟩ := hs.form
 obtain ⟨q, d, rfl, hm2⟩ := ht.form
 have HS := hid hs; have HT := hid ht; have H1 := hid h1; have H2 := hid h2; clear hs ht h1 h2
 generalize hga : w.heap.size = ga at *
 have HGA := hid hga; clear hga
 go_enter Tryz.func41, Tryz.ntmps41
 go_wp2_with (fail)
 refine (toLoopS_any p _ c x.1 _ rfl (HS.out.ext ((((Ext.refl w).alloc _).alloc _).alloc _)) H1.out).mono ?_
 rintro e W1 ⟨p1, d1, rfl, hv, hE⟩
 have E1 : Hid (Ext w W1) := ((((Ext.refl w).alloc _).alloc _).alloc _).trans hE
 have BA := hE.blk (g := ga) (blk_old (blk_old (blk_at HGA.out.symm)))
 have BR := hE.blk (g := ga + 1) (blk_old (blk_at (by simp [HGA.out])))
 have BO := hE.blk (g := ga + 1 + 1) (blk_at (by simp [HGA.out]))
 have hl := lt_of_block BO
 have HV := hid (hv.weak (B' := ga + 1 + 1 + 1) (by simp [HGA.out]))
 obtain ⟨a0, a1, -, -⟩ := blk2 (blk_off (g' := ga + 1 + 1) (o' := 0) BA (by omega) (.slice p1 x.1.length d1))
 obtain ⟨o0, o1, f0, f1⟩ := blk2 BO
 have HBR := hid (blk_off (g' := ga + 1 + 1) (o' := 0) BR (by omega) (.slice p1 x.1.length d1))
 have HBO := hid (blk2_set0' (c := .slice p1 x.1.length d1) BO)
 have E2 : Hid (Ext w (W1.setCell ⟨ga + 1 + 1, 0, none⟩ (.slice p1 x.1.length d1))) := E1.out.setCell (by rw [HGA.out]; simp <;> omega) _
 have HV2 := hid (HV.out.setOld (p := ⟨ga + 1 + 1, 0, none⟩) (by simp) (.slice p1 x.1.length d1))
 clear hE hv BA BR BO HV
 rw [HGA.out]
 go_wp2_with (fail)
 clear f0 f1 o0 o1 hl E1
 generalize W1.setCell ⟨ga + 1 + 1, 0, none⟩ (.slice p1 x.1.length d1) = W2 at *
 refine (toStmtS_any q _ d x.2 _ rfl (HT.out.ext E2.out) H2.out).mono ?_
 rintro e W3 ⟨p3, d3, rfl, hv, hE⟩
 have E3 : Hid (Ext w W3) := E2.out.trans hE
 obtain ⟨o0, o1, f0, f1⟩ := blk2 (hE.blk HBO.out)
 obtain ⟨r0, r1, e0, e1⟩ := blk2 (hE.blk HBR.out)
 have hl := lt_of_block (hE.blk HBO.out)
 have HV3 := hid (HV2.out.ext hE)
 have HY3 := hid (hv.weak (B' := ga + 1 + 1 + 1) (by have := lt_of_block HBO.out; omega))
 clear hE hv HV2 a0 a1 HBO HBR
 go_wp2
 refine bodyPost_ret (v := .agg #[.slice p1 x.1.length d1, .slice p3 x.2.length d3]) (by simp [results, Tryz.results41, go_sem, r0, r1]) rfl ⟨_, _, _, _, rfl, ?_, ?_, ?_⟩
 ·refine LoopsOwn.weak (B := ga + 1 + 1 + 1) ?_ (by omega)
  repeat (refine LoopsOwn.setOld ?_ (by simp <;> omega) _)
  exact HV3.out
 ·refine StmtsO.weak (B := ga + 1 + 1 + 1) ?_ (by omega)
  repeat (refine StmtsO.setOld ?_ (by simp <;> omega) _)
  exact HY3.out
 ·repeat (refine Ext.setCell ?_ (by rw [HGA.out]; simp <;> omega) _)
  exact E3.out
theorem toPartS_any (p : Option Addr) (n c : Nat) (zs : List Pt) (w : World) (hn : zs.length = n) (hs : PartsAt w (.slice p n c) zs) (hsm : SmallPts zs) :
  Calls Tryz.prog 22 #[.slice p n c] w fun e w' => ∃ q d, e = .returned (.slice q n d) ∧ PartsO w.heap.size w' (.slice q n d) zs ∧ Ext w w' := by
 have hm : n ≤ 1048576 := by rw [← hn]; exact hsm.1
 obtain ⟨i0, hi, hz0, hz1, hz2⟩ := info_parts infoPart
 have HS := hid hs; clear hs
 have HN := hid hn; clear hn
 have HSM := hid hsm; clear hsm
 go_enter Tryz.func22, Tryz.ntmps22
 go_wp2_with (at_make; refine wpList_make_full _ rfl _ _ 30 rfl w.heap.size 91 i0 (.agg #[.slice none 0 0, .slice none 0 0]) 2 Tryz.underlying30 hi hz0 hz1 _ _ _ _ n rfl rfl rfl rfl ?b2 ?b3 (Nat.le_refl _) ?_)
 case b2 => rw [hz2]; omega
 case b3 => unfold maxLen; omega
 intro w0 hown0 hgrow0
 have HP := hid (show PairRow 91 PartO w.heap.size (w.heap.size + 1) w.heap.size n zs 0 w0 from ⟨_, hown0, fun i x hi => absurd hi (by omega)⟩)
 have HG := hid ((Ext.refl w).grown hgrow0 (fun k h => by cases h))
 clear hown0 hgrow0 hi hz0 hz1 hz2
 go_wp2
 go_loopw [4] (fun i wr => ∃ k : Nat, k ≤ n ∧ i = .int .i64 k ∧ PairRow 91 PartO w.heap.size (w.heap.size + 1) w.heap.size n zs k wr ∧ Ext w wr) (fun i _ => n - (intOf i).toNat)
 case atStart => exact ⟨0, by omega, rfl, HP.out, HG.out⟩
 case round =>
  obtain ⟨k, hk, rfl, hrow, hE⟩ := hrel
  by_cases hlt : k < n
  ·obtain ⟨x, hx⟩ := get_some (xs := zs) (k := k) (by rw [HN.out]; exact hlt)
   obtain ⟨b, off, q, m, q', m', rfl, c0, c1, hb, hr, hr'⟩ := (HS.out.ext hE).elem hx
   have hxs := HSM.out.2 x (List.mem_of_getElem? hx)
   have HX := hid hx; have HR := hid hr; have HR' := hid hr'; have HW := hid hrow; have HXs := hid hxs; clear hx hr hr' hrow hxs
   go_wp2_with (fail)
   refine (toPart_any _ _ x _ HR.out HR'.out HXs.out.1 HXs.out.2).mono ?_
   rintro e w1 ⟨q1, m1, q2, m2, rfl, hv, hv', hE1⟩
   obtain ⟨f0, f1, ⟨v0, d0⟩, ⟨v1, d1⟩, hg0, hg1⟩ := HW.out.open' hE1 hlt
   have hB : w.heap.size + 1 ≤ wr.heap.size := by have := HW.out.open' (Ext.refl wr) hlt; omega
   have HV := hid (PartO.weak (B' := w.heap.size + 1) (show PartO wr.heap.size w1 _ _ x from ⟨hv, hv'⟩) hB)
   have HE1 := hid hE1
   clear hE1 c0 c1
   go_wp2
   go_roundw
   case rel => exact ⟨k + 1, by omega, by go_num, PairRow.step (fun h hb => h.ext hb) (fun h hp => h.setOld hp _) HW.out HE1.out hlt HX.out HV.out, ((hE.trans HE1.out).setCell (Nat.le_refl _) _).setCell (Nat.le_refl _) _⟩
   case measure => simp [intOf]; omega
  ·go_wp2
   go_ret
   have e : k = n := by omega
   subst e
   exact ⟨_, _, rfl, PairRow.done (fun h hB => h.weak hB) hrow HN.out (Nat.le_refl _), hE⟩
theorem toProgram'_any (s t : Value) (x : List Arr × List Pt) (w : World) (hs : ArrsAt w s x.1) (ht : PartsAt w t x.2) (h1 : SmallArs x.1) (h2 : SmallPts x.2) :
  Calls Tryz.prog 7 #[.agg #[s, t]] w fun e w' => ∃ p c q d, e = .returned (.agg #[.slice p x.1.length c, .slice q x.2.length d]) ∧ ArrsO w.heap.size w' (.slice p x.1.length c) x.1 ∧ PartsO w.heap.size w' (.slice q x.2.length d) x.2 ∧ Ext w w' := by
 obtain ⟨p, c, rfl, hm⟩ := hs.form
 obtain ⟨q, d, rfl, hm2⟩ := ht.form
 have HS := hid hs; have HT := hid ht; have H1 := hid h1; have H2 := hid h2; clear hs ht h1 h2
 generalize hga : w.heap.size = ga at *
 have HGA := hid hga; clear hga
 go_enter Tryz.func7, Tryz.ntmps7
 go_wp2_with (fail)
 refine (toArrayS_any p _ c x.1 _ rfl (HS.out.ext ((((Ext.refl w).alloc _).alloc _).alloc _)) H1.out).mono ?_
 rintro e W1 ⟨p1, d1, rfl, hv, hE⟩
 have E1 : Hid (Ext w W1) := ((((Ext.refl w).alloc _).alloc _).alloc _).trans hE
 have BA := hE.blk (g := ga) (blk_old (blk_old (blk_at HGA.out.symm)))
 have BR := hE.blk (g := ga + 1) (blk_old (blk_at (by simp [HGA.out])))
 have BO := hE.blk (g := ga + 1 + 1) (blk_at (by simp [HGA.out]))
 have hl := lt_of_block BO
 have HV := hid (hv.weak (B' := ga + 1 + 1 + 1) (by simp [HGA.out]))
 obtain ⟨a0, a1, -, -⟩ := blk2 (blk_off (g' := ga + 1 + 1) (o' := 0) BA (by omega) (.slice p1 x.1.length d1))
 obtain ⟨o0, o1, f0, f1⟩ := blk2 BO
 have HBR := hid (blk_off (g' := ga + 1 + 1) (o' := 0) BR (by omega) (.slice p1 x.1.length d1))
 have HBO := hid (blk2_set0' (c := .slice p1 x.1.length d1) BO)
 have E2 : Hid (Ext w (W1.setCell ⟨ga + 1 + 1, 0, none⟩ (.slice p1 x.1.length d1))) := E1.out.setCell (by rw [HGA.out]; simp <;> omega) _
 have HV2 := hid (HV.out.setOld (p := ⟨ga + 1 + 1, 0, none⟩) (by simp) (.slice p1 x.1.length d1))
 clear hE hv BA BR BO HV
 rw [HGA.out]
 go_wp2_with (fail)
 clear f0 f1 o0 o1 hl E1
 generalize W1.setCell ⟨ga + 1 + 1, 0, none⟩ (.slice p1 x.1.length d1) = W2 at *
 refine (toPartS_any q _ d x.2 _ rfl (HT.out.ext E2.out) H2.out).mono ?_
 rintro e W3 ⟨p3, d3, rfl, hv, hE⟩
 have E3 : Hid (Ext w W3) := E2.out.trans hE
 obtain ⟨o0, o1, f0, f1⟩ := blk2 (hE.blk HBO.out)
 obtain ⟨r0, r1, e0, e1⟩ := blk2 (hE.blk HBR.out)
 have hl := lt_of_block (hE.blk HBO.out)
 have HV3 := hid (HV2.out.ext hE)
 have HY3 := hid (hv.weak (B' := ga + 1 + 1 + 1) (by have := lt_of_block HBO.out; omega))
 clear hE hv HV2 a0 a1 HBO HBR
 go_wp2
 refine bodyPost_ret (v := .agg #[.slice p1 x.1.length d1, .slice p3 x.2.length d3]) (by simp [results, Tryz.results7, go_sem, r0, r1]) rfl ⟨_, _, _, _, rfl, ?_, ?_, ?_⟩
 ·refine ArrsO.weak (B := ga + 1 + 1 + 1) ?_ (by omega)
  repeat (refine ArrsO.setOld ?_ (by simp <;> omega) _)
  exact HV3.out
 ·refine PartsO.weak (B := ga + 1 + 1 + 1) ?_ (by omega)
  repeat (refine PartsO.setOld ?_ (by simp <;> omega) _)
  exact HY3.out
 ·repeat (refine Ext.setCell ?_ (by rw [HGA.out]; simp <;> omega) _)
  exact E3.out
def PrO (B : Nat) (w : World) (v : Value) (ars : List Arr) (ps : List Pt) : Prop := ∃ u0 u1, v = .agg #[u0, u1] ∧ ArrsO B w u0 ars ∧ PartsO B w u1 ps
theorem PrO.at {B : Nat} {w : World} {v : Value} {ars : List Arr} {ps : List Pt} (h : PrO B w v ars ps) : PrR w v ars ps := by
 obtain ⟨u0, u1, h1, h2, h3⟩ := h
 exact ⟨u0, u1, h1, h2.at, h3.at⟩
theorem PrO.ext {B : Nat} {w w' : World} {v : Value} {ars : List Arr} {ps : List Pt} (h : PrO B w v ars ps) (hE : Ext w w') : PrO B w' v ars ps := by
 obtain ⟨u0, u1, h1, h2, h3⟩ := h
 exact ⟨u0, u1, h1, h2.ext hE, h3.ext hE⟩
theorem toProgram_any (v : Value) (ars : List Arr) (ps : List Pt) (w : World) (h : PrR w v ars ps) (h1 : SmallArs ars) (h2 : SmallPts ps) :
  Calls Tryz.prog 7 #[v] w fun e w' => (∃ v', e = .returned v' ∧ PrO w.heap.size w' v' ars ps) ∧ Ext w w' := by
 obtain ⟨u0, u1, rfl, ha, hp⟩ := h
 refine (toProgram'_any u0 u1 (ars, ps) w ha hp h1 h2).mono ?_
 rintro e w' ⟨p, c, q, d, rfl, h3, h4, hE⟩
 exact ⟨⟨_, rfl, _, _, rfl, h3, h4⟩, hE⟩
end Go.Proofs.YtggpjapmhakklaaGreat
