/- The texts G1 G2, joined. No statement is proved here. -/
import Derived.Test.YtklehkkclojccaaGreatQL23
set_option maxRecDepth 100000
set_option maxHeartbeats 8000000
set_option linter.unusedVariables false
set_option linter.unusedSimpArgs false
namespace Go.Proofs.YtklehkkclojccaaGreat
open Go.Lib (hid)
section
open Go.RowKit
def jY0S (a : Arr) : Prop := a.1.size <= 1048576 /\ a.2.length <= 1048576
def jW6 (ars : List Arr) : Prop := ars.length <= 1048576 /\ ∀ a ∈ ars, jY0S a
def jY34 (s : St) : Prop := s.1.size <= 1048576 /\ jZV s.2.1 /\ SmallE s.2.2
def jWu (ss : List St) : Prop := ss.length <= 1048576 /\ ∀ s ∈ ss, jY34 s
def jY2q (p : Pt) : Prop := jVI p.1 /\ jWu p.2
def jW9 (ps : List Pt) : Prop := ps.length <= 1048576 /\ ∀ p ∈ ps, jY2q p
theorem jZD.elem' {w : World} {p : Option Addr} {n c i : Nat} {ss : List St} {s : St} (h : jZD w (.slice p n c) ss) (hi : ss[i]? = some s) :
  ∃ b off q1 d1 q2 d2 q3 d3 q4 d4, p = some ⟨b, off, none⟩ /\ w.cell? ⟨b, off + i * 9, none⟩ = some (.string s.1) /\ w.cell? ⟨b, off + i * 9 + 1, none⟩ = some (.slice q1 s.2.1.length d1) /\
   w.cell? ⟨b, off + i * 9 + 2, none⟩ = some (.int .i64 s.2.2.kind) /\ w.cell? ⟨b, off + i * 9 + 3, none⟩ = some (.int .i64 s.2.2.num) /\ w.cell? ⟨b, off + i * 9 + 4, none⟩ = some (.slice q2 s.2.2.ix.1.length d2) /\ w.cell? ⟨b, off + i * 9 + 5, none⟩ = some (.int .i64 s.2.2.ix.2) /\
   w.cell? ⟨b, off + i * 9 + 6, none⟩ = some (.string s.2.2.arr) /\ w.cell? ⟨b, off + i * 9 + 7, none⟩ = some (.slice q3 s.2.2.subs.length d3) /\ w.cell? ⟨b, off + i * 9 + 8, none⟩ = some (.slice q4 s.2.2.kids.length d4) /\ b < w.heap.size /\
   StR w (.agg #[.string s.1, .slice q1 s.2.1.length d1, .int .i64 s.2.2.kind, .int .i64 s.2.2.num, .slice q2 s.2.2.ix.1.length d2, .int .i64 s.2.2.ix.2, .string s.2.2.arr, .slice q3 s.2.2.subs.length d3, .slice q4 s.2.2.kids.length d4]) s.1 s.2.1 s.2.2 /\ True := by
 obtain ⟨b, off, q1, d1, q2, d2, q3, d3, q4, d4, h1, h2, c0, c1, c2, c3, c4, c5, c6, c7, c8, hst⟩ := h.elem hi
 exact ⟨b, off, q1, d1, q2, d2, q3, d3, q4, d4, h1, c0, c1, c2, c3, c4, c5, c6, c7, c8, h2, hst, trivial⟩
end
section
open Go.RowKit
theorem StO.map {B B' : Nat} {w w' : World} {v : Value} {a : ByteArray} {su : List Aff} {e : Ex} (h : StO B w v a su e) (hi : ∀ {v xs}, jZ1 B w v xs -> jZ1 B' w' v xs) (ha : ∀ {v xs}, jZ8 B w v xs -> jZ8 B' w' v xs) (hr : ∀ {v n vs}, w.ownsRow B 179 7 v n vs -> w'.ownsRow B' 179 7 v n vs) : StO B' w' v a su e := by
 obtain ⟨s, cs, h1, h2, h3, h4⟩ := h
 exact ⟨s, cs, h1, h2, ha h3, h4.map hi ha hr⟩
theorem StO.ext {B : Nat} {w w' : World} {v : Value} {a : ByteArray} {su : List Aff} {e : Ex} (h : StO B w v a su e) (hE : Ext w w') : StO B w' v a su e := h.map (fun h => h.ext hE) (fun h => h.ext hE) (fun h => jZ3 h hE)
theorem StO.weak {B B' : Nat} {w : World} {v : Value} {a : ByteArray} {su : List Aff} {e : Ex} (h : StO B w v a su e) (hB : B' <= B) : StO B' w v a su e := h.map (fun h => h.weak hB) (fun h => h.weak hB) (fun h => jZ7 h hB)
theorem StO.setOld {B : Nat} {w : World} {v : Value} {a : ByteArray} {su : List Aff} {e : Ex} (h : StO B w v a su e) {p : Addr} (hp : p.block < B) (u : Value) : StO B (w.setCell p u) v a su e := h.map (fun h => h.setOld hp u) (fun h => h.setOld hp u) (fun h => ownsRow_setCell_below h hp u)
theorem StO.nine {B : Nat} {w : World} {v : Value} {a : ByteArray} {su : List Aff} {e : Ex} (h : StO B w v a su e) : ∃ q1 n1 d1 kind num q2 n2 d2 k arr q3 n3 d3 q4 n4 d4, v = .agg #[.string a, .slice q1 n1 d1, .int .i64 kind, .int .i64 num, .slice q2 n2 d2, .int .i64 k, .string arr, .slice q3 n3 d3, .slice q4 n4 d4] := by
 obtain ⟨q1, d1, q2, d2, q3, d3, q4, d4, rfl, -, -, -⟩ := h.at.parts
 exact ⟨_, _, _, _, _, _, _, _, _, _, _, _, _, _, _, _, rfl⟩
def StmtsO (B : Nat) (w : World) (v : Value) (ss : List St) : Prop := ∃ p c, ∃ us : Nat -> List Value, ∃ vs, v = .slice p ss.length c /\ w.ownsRow B 181 9 v ss.length vs /\
 (∀ (i : Nat) (s : St), ss[i]? = some s -> ∀ (j : Nat) (v : Value), (us i)[j]? = some v -> vs[i * 9 + j]? = some v) /\ ∀ (i : Nat) (s : St), ss[i]? = some s -> StO B w (.agg (us i).toArray) s.1 s.2.1 s.2.2
theorem StmtsO.map {B B' : Nat} {w w' : World} {v : Value} {ss : List St} (h : StmtsO B w v ss) (hi : ∀ {v xs}, jZ1 B w v xs -> jZ1 B' w' v xs) (ha : ∀ {v xs}, jZ8 B w v xs -> jZ8 B' w' v xs) (hr : ∀ {v n vs}, w.ownsRow B 179 7 v n vs -> w'.ownsRow B' 179 7 v n vs) (hs : ∀ {v n vs}, w.ownsRow B 181 9 v n vs -> w'.ownsRow B' 181 9 v n vs) : StmtsO B' w' v ss := by
 obtain ⟨p, c, us, vs, h1, h2, h3, h4⟩ := h
 exact ⟨p, c, us, vs, h1, hs h2, h3, fun i s hi' => (h4 i s hi').map hi ha hr⟩
theorem StmtsO.ext {B : Nat} {w w' : World} {v : Value} {ss : List St} (h : StmtsO B w v ss) (hE : Ext w w') : StmtsO B w' v ss := h.map (fun h => h.ext hE) (fun h => h.ext hE) (fun h => jZ3 h hE) (fun h => jZ3 h hE)
theorem StmtsO.weak {B B' : Nat} {w : World} {v : Value} {ss : List St} (h : StmtsO B w v ss) (hB : B' <= B) : StmtsO B' w v ss := h.map (fun h => h.weak hB) (fun h => h.weak hB) (fun h => jZ7 h hB) (fun h => jZ7 h hB)
theorem StmtsO.setOld {B : Nat} {w : World} {v : Value} {ss : List St} (h : StmtsO B w v ss) {p : Addr} (hp : p.block < B) (u : Value) : StmtsO B (w.setCell p u) v ss := h.map (fun h => h.setOld hp u) (fun h => h.setOld hp u) (fun h => ownsRow_setCell_below h hp u) (fun h => ownsRow_setCell_below h hp u)
theorem StmtsO.at {B : Nat} {w : World} {v : Value} {ss : List St} (h : StmtsO B w v ss) : jZD w v ss := by
 obtain ⟨p, c, us, vs, rfl, ho, hv, hk⟩ := h
 have hl : ss.length <= 9223372036854775807 := by
  rcases ho.2 with ⟨_, hn⟩ | ⟨g, c, cur, _, _, _, h1, h2, _⟩
  ·omega
  ·unfold maxLen at h2; omega
 refine ⟨p, c, us, rfl, hl, fun i e hi => ?_, fun i e hi => (hk i e hi).at⟩
 have hlt := (List.getElem?_eq_some_iff.1 hi).1
 rcases ho.2 with ⟨_, hn⟩ | ⟨g, c, cur, hv', _, hgh, _⟩
 ·omega
 ·cases hv'
  refine ⟨g, 0, rfl, (Array.getElem?_eq_some_iff.1 hgh).1, fun j v hj => ?_⟩; have h1 := hv i e hi j v hj; have h2 := World.ownsRow.cells ho (g := g) rfl (i * 9 + j) v h1; rw [Addr.add_lit, Nat.zero_add] at h2; rw [Nat.zero_add]; exact h2
def set9 (l : List Value) (m : Nat) (a0 a1 a2 a3 a4 a5 a6 a7 a8 : Value) : List Value := (((((((((l.set (m) a0).set (m + 1) a1).set (m + 2) a2).set (m + 3) a3).set (m + 4) a4).set (m + 5) a5).set (m + 6) a6).set (m + 7) a7).set (m + 8) a8)
theorem jY5J {l : List Value} {m i : Nat} {a0 a1 a2 a3 a4 a5 a6 a7 a8 : Value} (h : i < m \/ m + 8 < i) : (set9 l m a0 a1 a2 a3 a4 a5 a6 a7 a8)[i]? = l[i]? := by
 unfold set9
 rw [List.getElem?_set_ne (by omega), List.getElem?_set_ne (by omega), List.getElem?_set_ne (by omega), List.getElem?_set_ne (by omega), List.getElem?_set_ne (by omega), List.getElem?_set_ne (by omega), List.getElem?_set_ne (by omega), List.getElem?_set_ne (by omega), List.getElem?_set_ne (by omega)]
theorem set9_in {l : List Value} {m j : Nat} {a0 a1 a2 a3 a4 a5 a6 a7 a8 v : Value} (hl : m + 8 < l.length) (h : [a0, a1, a2, a3, a4, a5, a6, a7, a8][j]? = some v) : (set9 l m a0 a1 a2 a3 a4 a5 a6 a7 a8)[m + j]? = some v := by
 have hj : j < 9 := (List.getElem?_eq_some_iff.1 h).1
 unfold set9
 match j, hj, h with
 | 0, _, h => simp at h; subst h; (repeat (rw [List.getElem?_set_ne (by omega)])); rw [Nat.add_zero, List.getElem?_set_self (by omega)]
 | 1, _, h => simp at h; subst h; (repeat (rw [List.getElem?_set_ne (by omega)])); rw [List.getElem?_set_self (by simp; omega)]
 | 2, _, h => simp at h; subst h; (repeat (rw [List.getElem?_set_ne (by omega)])); rw [List.getElem?_set_self (by simp; omega)]
 | 3, _, h => simp at h; subst h; (repeat (rw [List.getElem?_set_ne (by omega)])); rw [List.getElem?_set_self (by simp; omega)]
 | 4, _, h => simp at h; subst h; (repeat (rw [List.getElem?_set_ne (by omega)])); rw [List.getElem?_set_self (by simp; omega)]
 | 5, _, h => simp at h; subst h; (repeat (rw [List.getElem?_set_ne (by omega)])); rw [List.getElem?_set_self (by simp; omega)]
 | 6, _, h => simp at h; subst h; (repeat (rw [List.getElem?_set_ne (by omega)])); rw [List.getElem?_set_self (by simp; omega)]
 | 7, _, h => simp at h; subst h; (repeat (rw [List.getElem?_set_ne (by omega)])); rw [List.getElem?_set_self (by simp; omega)]
 | 8, _, h => simp at h; subst h; rw [List.getElem?_set_self (by simp; omega)]
def put9 (w : World) (g m : Nat) (a0 a1 a2 a3 a4 a5 a6 a7 a8 : Value) : World := (((((((((w.setCell ⟨g, m, none⟩ a0).setCell ⟨g, m + 1, none⟩ a1).setCell ⟨g, m + 2, none⟩ a2).setCell ⟨g, m + 3, none⟩ a3).setCell ⟨g, m + 4, none⟩ a4).setCell ⟨g, m + 5, none⟩ a5).setCell ⟨g, m + 6, none⟩ a6).setCell ⟨g, m + 7, none⟩ a7).setCell ⟨g, m + 8, none⟩ a8)
theorem jY6m {B g n cap m : Nat} {e : TypeId} {w : World} {vs : List Value} {a0 a1 a2 a3 a4 a5 a6 a7 a8 : Value} (h : w.ownsRow B e 9 (.slice (some ⟨g, 0, none⟩) n cap) n vs) : (put9 w g m a0 a1 a2 a3 a4 a5 a6 a7 a8).ownsRow B e 9 (.slice (some ⟨g, 0, none⟩) n cap) n (set9 vs m a0 a1 a2 a3 a4 a5 a6 a7 a8) :=
 (((((((((h.stored (m) a0).1.stored (m + 1) a1).1.stored (m + 2) a2).1.stored (m + 3) a3).1.stored (m + 4) a4).1.stored (m + 5) a5).1.stored (m + 6) a6).1.stored (m + 7) a7).1.stored (m + 8) a8).1
theorem jY3F {B g m : Nat} {w : World} {v : Value} {s : St} {a0 a1 a2 a3 a4 a5 a6 a7 a8 : Value} (h : StO B w v s.1 s.2.1 s.2.2) (hg : g < B) : StO B (put9 w g m a0 a1 a2 a3 a4 a5 a6 a7 a8) v s.1 s.2.1 s.2.2 :=
 (((((((((h.setOld (p := ⟨g, m, none⟩) hg a0).setOld (p := ⟨g, m + 1, none⟩) hg a1).setOld (p := ⟨g, m + 2, none⟩) hg a2).setOld (p := ⟨g, m + 3, none⟩) hg a3).setOld (p := ⟨g, m + 4, none⟩) hg a4).setOld (p := ⟨g, m + 5, none⟩) hg a5).setOld (p := ⟨g, m + 6, none⟩) hg a6).setOld (p := ⟨g, m + 7, none⟩) hg a7).setOld (p := ⟨g, m + 8, none⟩) hg a8)
theorem jY5N {W w : World} {g m : Nat} {a0 a1 a2 a3 a4 a5 a6 a7 a8 : Value} (h : Ext W w) (hg : W.heap.size <= g) : Ext W (put9 w g m a0 a1 a2 a3 a4 a5 a6 a7 a8) :=
 (((((((((h.setCell (p := ⟨g, m, none⟩) hg a0).setCell (p := ⟨g, m + 1, none⟩) hg a1).setCell (p := ⟨g, m + 2, none⟩) hg a2).setCell (p := ⟨g, m + 3, none⟩) hg a3).setCell (p := ⟨g, m + 4, none⟩) hg a4).setCell (p := ⟨g, m + 5, none⟩) hg a5).setCell (p := ⟨g, m + 6, none⟩) hg a6).setCell (p := ⟨g, m + 7, none⟩) hg a7).setCell (p := ⟨g, m + 8, none⟩) hg a8)
def RowS (B Bi g n : Nat) (es : List St) (k : Nat) (w : World) : Prop := ∃ (vs : List Value) (us : Nat -> List Value), w.ownsRow B 181 9 (.slice (some ⟨g, 0, none⟩) n n) n vs /\
 ∀ (i : Nat) (e : St), i < k -> es[i]? = some e -> (us i).length = 9 /\ (∀ (j : Nat) (v : Value), (us i)[j]? = some v -> vs[i * 9 + j]? = some v) /\ StO Bi w (.agg (us i).toArray) e.1 e.2.1 e.2.2
theorem RowS.open' {B Bi g n k : Nat} {es : List St} {w w1 : World} (h : RowS B Bi g n es k w) (hE : Ext w w1) (hk : k < n) :
  (∀ j, w1.frozen? ⟨g, k * 9 + j, none⟩ = false) /\ (∀ j, j < 9 -> ∃ v, w1.cell? ⟨g, k * 9 + j, none⟩ = some v) /\ B <= g /\ g < w1.heap.size := by
 obtain ⟨vs, us, ho, _⟩ := h
 have ho := jZ3 ho hE
 have hl := ho.1
 have := ho.lt g rfl
 refine ⟨fun j => ho.frozenAt _, fun j hj => ?_, this.1, this.2⟩
 rw [ho.cellAt (k * 9 + j) (by omega)]; exact jZ0 (by omega)
theorem RowS.step {B g n k : Nat} {es : List St} {w w1 : World} {a0 a1 a2 a3 a4 a5 a6 a7 a8 : Value} {x : St} (h : RowS B (g + 1) g n es k w) (hE : Ext w w1) (hk : k < n) (hx : es[k]? = some x) (hr : StO (g + 1) w1 (.agg #[a0, a1, a2, a3, a4, a5, a6, a7, a8]) x.1 x.2.1 x.2.2) :
  RowS B (g + 1) g n es (k + 1) (put9 w1 g (k * 9) a0 a1 a2 a3 a4 a5 a6 a7 a8) := by
 obtain ⟨vs, us, ho, hv⟩ := h
 have ho := jZ3 ho hE
 have hl := ho.1
 refine ⟨_, fun i => if i = k then [a0, a1, a2, a3, a4, a5, a6, a7, a8] else us i, jY6m ho, fun i y hi hy => ?_⟩
 by_cases e : i = k
 ·subst e
  rw [hx] at hy; cases hy
  simp only [if_true]; exact ⟨rfl, fun j v hj => set9_in (by omega) hj, jY3F hr (by omega)⟩
 ·simp only [if_neg e]
  obtain ⟨h9, h0, h1⟩ := hv i y (by omega) hy; refine ⟨h9, fun j v hj => ?_, jY3F (h1.ext hE) (by omega)⟩; have hj9 : j < 9 := by rw [<- h9]; exact (List.getElem?_eq_some_iff.1 hj).1
  rw [jY5J (by omega)]; exact h0 j v hj
theorem RowS.done {B g n : Nat} {es : List St} {w : World} (h : RowS B (g + 1) g n es n w) (hn : es.length = n) (hB : B <= g) : StmtsO B w (.slice (some ⟨g, 0, none⟩) n n) es := by
 obtain ⟨vs, us, ho, hv⟩ := h
 refine ⟨_, n, us, vs, by rw [hn], by rw [hn]; exact ho, fun i e hi j v hj => ?_, fun i e hi => ?_⟩
 ·exact (hv i e (by rw [<- hn]; exact (List.getElem?_eq_some_iff.1 hi).1) hi).2.1 j v hj
 ·exact (hv i e (by rw [<- hn]; exact (List.getElem?_eq_some_iff.1 hi).1) hi).2.2.weak (by omega)
theorem jY5P : (Tryz.prog.info? 181).map (fun i => (i.zero, i.size, i.bytes)) = some (some (.agg #[.string ⟨#[]⟩, .slice none 0 0, .int .i64 0, .int .i64 0, .slice none 0 0, .int .i64 0, .string ⟨#[]⟩, .slice none 0 0, .slice none 0 0]), 9, 152) := by kernel_rfl
theorem jY2o (p : Option Addr) (n c : Nat) (es : List St) (w : World) (hn : es.length = n) (hs : jZD w (.slice p n c) es) (hsm : jWu es) :
  Calls Tryz.prog 155 #[.slice p n c] w fun e w' => ∃ q d, e = .returned (.slice q n d) /\ StmtsO w.heap.size w' (.slice q n d) es /\ Ext w w' := by
 have hm : n <= 1048576 := by rw [<- hn]; exact hsm.1
 obtain ⟨i0, hi, hz0, hz1, hz2⟩ := info_parts jY5P
 have HS := hid hs; have HN := hid hn; have HSM := hid hsm; clear hs hn hsm
 go_enter Tryz.func155, Tryz.ntmps155
 go_wp2_with (at_make; refine wpList_make_full _ rfl _ _ 143 rfl w.heap.size 181 i0 (.agg #[.string ⟨#[]⟩, .slice none 0 0, .int .i64 0, .int .i64 0, .slice none 0 0, .int .i64 0, .string ⟨#[]⟩, .slice none 0 0, .slice none 0 0]) 9 Tryz.underlying143 hi hz0 hz1 _ _ _ _ n rfl rfl rfl rfl ?b2 ?b3 (Nat.le_refl _) ?_)
 case b2 => rw [hz2]; omega
 case b3 => unfold maxLen; omega
 intro w1 hown0 hgrow0
 have HP := hid (show RowS w.heap.size (w.heap.size + 1) w.heap.size n es 0 w1 from ⟨_, fun _ => [], hown0, fun i x hi => absurd hi (by omega)⟩)
 have HG := hid ((Ext.refl w).grown hgrow0 (fun k h => by cases h))
 clear hown0 hgrow0 hi hz0 hz1 hz2
 go_wp2
 go_loopw [4] (fun i wr => ∃ k : Nat, k <= n /\ i = .int .i64 k /\ RowS w.heap.size (w.heap.size + 1) w.heap.size n es k wr /\ Ext w wr) (fun i _ => n - (intOf i).toNat)
 case atStart => exact ⟨0, by omega, rfl, HP.o, HG.o⟩
 case round =>
  obtain ⟨k, hk, rfl, hrow, hE⟩ := hrel; by_cases hlt : k < n
  ·obtain ⟨x, hx⟩ := jZ0 (xs := es) (k := k) (by rw [HN.o]; exact hlt)
   obtain ⟨b, off, q1, d1, q2, d2, q3, d3, q4, d4, rfl, c0, c1, c2, c3, c4, c5, c6, c7, c8, hb, hr, -⟩ := (HS.o.ext hE).elem' hx; have hsx := HSM.o.2 x (List.mem_of_getElem? hx); have HX := hid hx; have HR := hid hr; have HW := hid hrow; have HSX := hid hsx; clear hx hr hrow hsx; go_wp2_with (fail); refine (jY4h _ x.1 x.2.1 x.2.2 wr HR.o HSX.o.2.1 HSX.o.2.2).mono ?_; rintro e w2 ⟨⟨v2, rfl, hv⟩, hE1⟩; obtain ⟨p1, n1, e1, kind, num, p2, n2, e2, k', arr', p3, n3, e3, p4, n4, e4, rfl⟩ := hv.nine; obtain ⟨hf, hce, hg0, hg1⟩ := HW.o.open' hE1 hlt; have f0 := hf 0; have f1 := hf 1; have f2 := hf 2; have f3 := hf 3; have f4 := hf 4; have f5 := hf 5; have f6 := hf 6; have f7 := hf 7; have f8 := hf 8; obtain ⟨v0, d0'⟩ := hce 0 (by omega); obtain ⟨v1, d1'⟩ := hce 1 (by omega); obtain ⟨v2, d2'⟩ := hce 2 (by omega); obtain ⟨v3, d3'⟩ := hce 3 (by omega); obtain ⟨v4, d4'⟩ := hce 4 (by omega); obtain ⟨v5, d5'⟩ := hce 5 (by omega); obtain ⟨v6, d6'⟩ := hce 6 (by omega); obtain ⟨v7, d7'⟩ := hce 7 (by omega); obtain ⟨v8, d8'⟩ := hce 8 (by omega); rw [Nat.add_zero] at f0 d0'; have HV := hid (hv.weak (B' := w.heap.size + 1) (by have := (HW.o.open' (Ext.refl wr) hlt).2.2.2; omega)); have HE1 := hid hE1; have HST := hid (HW.o.step HE1.o hlt HX.o HV.o); have HEX := hid (jY5N (m := k * 9) (a0 := .string x.1) (a1 := .slice p1 n1 e1) (a2 := .int .i64 kind) (a3 := .int .i64 num) (a4 := .slice p2 n2 e2) (a5 := .int .i64 k') (a6 := .string arr') (a7 := .slice p3 n3 e3) (a8 := .slice p4 n4 e4) (hE.trans HE1.o) (Nat.le_refl w.heap.size)); unfold put9 at HST HEX; clear hv hE1 c0 c1 c2 c3 c4 c5 c6 c7 c8 hf hce; go_wp2; go_roundw
   case rel => exact ⟨k + 1, by omega, by go_num, HST.o, HEX.o⟩
   case measure => simp [intOf]; omega
  ·have e : k = n := by omega
   subst e; have HW := hid hrow; clear hrow; go_wp2; go_ret; exact ⟨_, _, rfl, HW.o.done HN.o (Nat.le_refl _), hE⟩
def ArrO (B : Nat) (w : World) (u0 u1 : Value) (a : Arr) : Prop := u0 = .string a.1 /\ a.1.size <= 9223372036854775807 /\ jZ1 B w u1 a.2
def ArrsO : Nat -> World -> Value -> List Arr -> Prop := jZ9 147 ArrO
def PartO (B : Nat) (w : World) (u0 u1 : Value) (a : Pt) : Prop := jZr B w u0 a.1 /\ StmtsO B w u1 a.2
def PartsO : Nat -> World -> Value -> List Pt -> Prop := jZ9 145 PartO
theorem ArrO.ext {B : Nat} {w w' : World} {u0 u1 : Value} {a : Arr} (h : ArrO B w u0 u1 a) (hE : Ext w w') : ArrO B w' u0 u1 a := ⟨h.1, h.2.1, h.2.2.ext hE⟩
theorem ArrO.weak {B B' : Nat} {w : World} {u0 u1 : Value} {a : Arr} (h : ArrO B w u0 u1 a) (hB : B' <= B) : ArrO B' w u0 u1 a := ⟨h.1, h.2.1, h.2.2.weak hB⟩
theorem ArrO.setOld {B : Nat} {w : World} {u0 u1 : Value} {a : Arr} (h : ArrO B w u0 u1 a) {p : Addr} (hp : p.block < B) (u : Value) : ArrO B (w.setCell p u) u0 u1 a := ⟨h.1, h.2.1, h.2.2.setOld hp u⟩
theorem PartO.ext {B : Nat} {w w' : World} {u0 u1 : Value} {a : Pt} (h : PartO B w u0 u1 a) (hE : Ext w w') : PartO B w' u0 u1 a := ⟨h.1.ext hE, h.2.ext hE⟩
theorem PartO.weak {B B' : Nat} {w : World} {u0 u1 : Value} {a : Pt} (h : PartO B w u0 u1 a) (hB : B' <= B) : PartO B' w u0 u1 a := ⟨h.1.weak hB, h.2.weak hB⟩
theorem PartO.setOld {B : Nat} {w : World} {u0 u1 : Value} {a : Pt} (h : PartO B w u0 u1 a) {p : Addr} (hp : p.block < B) (u : Value) : PartO B (w.setCell p u) u0 u1 a := ⟨h.1.setOld hp u, h.2.setOld hp u⟩
theorem ArrsO.at {B : Nat} {w : World} {v : Value} {xs : List Arr} (h : ArrsO B w v xs) : ArrsAt w v xs := jZ9.at' (fun h => ⟨h.1, h.2.1, h.2.2.at⟩) h
theorem PartsO.at {B : Nat} {w : World} {v : Value} {xs : List Pt} (h : PartsO B w v xs) : jZH w v xs := jZ9.at' (fun h => ⟨h.1.at, h.2.at⟩) h
theorem ArrsO.ext {B : Nat} {w w' : World} {v : Value} {xs : List Arr} (h : ArrsO B w v xs) (hb : Ext w w') : ArrsO B w' v xs := jZ9.map' h (fun _ h => jZ3 h hb) (fun h => h.ext hb)
theorem PartsO.ext {B : Nat} {w w' : World} {v : Value} {xs : List Pt} (h : PartsO B w v xs) (hb : Ext w w') : PartsO B w' v xs := jZ9.map' h (fun _ h => jZ3 h hb) (fun h => h.ext hb)
theorem ArrsO.weak {B B' : Nat} {w : World} {v : Value} {xs : List Arr} (h : ArrsO B w v xs) (hB : B' <= B) : ArrsO B' w v xs := jZ9.map' h (fun _ h => jZ7 h hB) (fun h => h.weak hB)
theorem PartsO.weak {B B' : Nat} {w : World} {v : Value} {xs : List Pt} (h : PartsO B w v xs) (hB : B' <= B) : PartsO B' w v xs := jZ9.map' h (fun _ h => jZ7 h hB) (fun h => h.weak hB)
theorem ArrsO.setOld {B : Nat} {w : World} {v : Value} {xs : List Arr} (h : ArrsO B w v xs) {p : Addr} (hp : p.block < B) (u : Value) : ArrsO B (w.setCell p u) v xs := jZ9.map' h (fun _ h => ownsRow_setCell_below h hp u) (fun h => h.setOld hp u)
theorem PartsO.setOld {B : Nat} {w : World} {v : Value} {xs : List Pt} (h : PartsO B w v xs) {p : Addr} (hp : p.block < B) (u : Value) : PartsO B (w.setCell p u) v xs := jZ9.map' h (fun _ h => ownsRow_setCell_below h hp u) (fun h => h.setOld hp u)
theorem jY4U : (Tryz.prog.info? 147).map (fun i => (i.zero, i.size, i.bytes)) = some (some (.agg #[.string ⟨#[]⟩, .slice none 0 0]), 2, 40) := by kernel_rfl
theorem jY5U : (Tryz.prog.info? 145).map (fun i => (i.zero, i.size, i.bytes)) = some (some (.agg #[.slice none 0 0, .slice none 0 0]), 2, 48) := by kernel_rfl
theorem jY2B (x : Arr) (s : Value) (w : World) (_ha : x.1.size <= 9223372036854775807) (hs : IntsAt w s x.2) (h1 : jY0S x) :
  Calls Tryz.prog 94 #[.agg #[.string x.1, s]] w fun e w' => ∃ q d, e = .returned (.agg #[.string x.1, .slice q x.2.length d]) /\ jZ1 w.heap.size w' (.slice q x.2.length d) x.2 /\ Ext w w' := by
 obtain ⟨p, c, rfl, hm, -⟩ := id hs
 have HS := hid hs; have H1 := hid h1; clear hs h1
 generalize hga : w.heap.size = ga at *
 have HGA := hid hga; clear hga
 go_enter Tryz.func94, Tryz.ntmps94
 go_wp2_with (fail)
 refine (jY0M _ x.2 _ (HS.o.ext ((((Ext.refl w).alloc _).alloc _).alloc _)) H1.o.2).mono ?_
 rintro e W1 ⟨q, d, rfl, hv, hE⟩
 have E1 : Hid (Ext w W1) := hid (((((Ext.refl w).alloc _).alloc _).alloc _).trans hE)
 have BR := hE.blk (g := ga + 1) (jZ4 (blk_at (by simp [HGA.o])))
 have BO := hE.blk (g := ga + 1 + 1) (blk_at (by simp [HGA.o]))
 have hl := lt_of_block BO
 have HV := hid (hv.weak (B' := ga + 1 + 1 + 1) (by simp [HGA.o]))
 obtain ⟨o0, o1, f0, f1⟩ := blk2 BO
 obtain ⟨r0, r1, e0, e1⟩ := blk2 BR
 clear hE hv
 rw [HGA.o]
 go_wp2
 refine bodyPost_ret (v := .agg #[.string x.1, .slice q x.2.length d]) (by simp [results, Tryz.results94, go_sem, r0, r1]) rfl ⟨_, _, rfl, ?_, ?_⟩
 ·refine jZ1.weak (B := ga + 1 + 1 + 1) ?_ (by omega)
  repeat (refine jZ1.setOld ?_ (by simp <;> omega) _)
  exact HV.o
 ·repeat (refine Ext.setCell ?_ (by rw [HGA.o]; simp <;> omega) _)
  exact E1.o
theorem jY20 (p : Option Addr) (n c : Nat) (zs : List Arr) (w : World) (hn : zs.length = n) (hs : ArrsAt w (.slice p n c) zs) (hsm : jW6 zs) :
  Calls Tryz.prog 48 #[.slice p n c] w fun e w' => ∃ q d, e = .returned (.slice q n d) /\ ArrsO w.heap.size w' (.slice q n d) zs /\ Ext w w' := by
 have hm : n <= 1048576 := by rw [<- hn]; exact hsm.1
 obtain ⟨i0, hi, hz0, hz1, hz2⟩ := info_parts jY4U
 have HS := hid hs; clear hs
 have HN := hid hn; clear hn
 have HSM := hid hsm; clear hsm
 go_enter Tryz.func48, Tryz.ntmps48
 go_wp2_with (at_make; refine wpList_make_full _ rfl _ _ 29 rfl w.heap.size 147 i0 (.agg #[.string ⟨#[]⟩, .slice none 0 0]) 2 Tryz.underlying29 hi hz0 hz1 _ _ _ _ n rfl rfl rfl rfl ?b2 ?b3 (Nat.le_refl _) ?_)
 case b2 => rw [hz2]; omega
 case b3 => unfold maxLen; omega
 intro w0 hown0 hgrow0
 have HP := hid (show jZE 147 ArrO w.heap.size (w.heap.size + 1) w.heap.size n zs 0 w0 from ⟨_, hown0, fun i x hi => absurd hi (by omega)⟩)
 have HG := hid ((Ext.refl w).grown hgrow0 (fun k h => by cases h))
 clear hown0 hgrow0 hi hz0 hz1 hz2
 go_wp2
 go_loopw [4] (fun i wr => ∃ k : Nat, k <= n /\ i = .int .i64 k /\ jZE 147 ArrO w.heap.size (w.heap.size + 1) w.heap.size n zs k wr /\ Ext w wr) (fun i _ => n - (intOf i).toNat)
 case atStart => exact ⟨0, by omega, rfl, HP.o, HG.o⟩
 case round =>
  obtain ⟨k, hk, rfl, hrow, hE⟩ := hrel; by_cases hlt : k < n
  ·obtain ⟨x, hx⟩ := jZ0 (xs := zs) (k := k) (by rw [HN.o]; exact hlt)
   obtain ⟨b, off, q, m, rfl, c0, c1, hb, hr, hr'⟩ := (HS.o.ext hE).elem hx; have hxs := HSM.o.2 x (List.mem_of_getElem? hx); have HX := hid hx; have HR := hid hr; have HR' := hid hr'; have HW := hid hrow; have HXs := hid hxs; clear hx hr hr' hrow hxs; go_wp2_with (fail); refine (jY2B x _ _ HR.o HR'.o HXs.o).mono ?_; rintro e w1 ⟨q1, m1, rfl, hv, hE1⟩; obtain ⟨f0, f1, ⟨v0, d0⟩, ⟨v1, d1⟩, hg0, hg1⟩ := HW.o.open' hE1 hlt; have hB : w.heap.size + 1 <= wr.heap.size := by have := HW.o.open' (Ext.refl wr) hlt; omega
   have HV := hid (ArrO.weak (B' := w.heap.size + 1) (show ArrO wr.heap.size w1 _ _ x from ⟨rfl, HR.o, hv⟩) hB); have HE1 := hid hE1; clear hE1 c0 c1; go_wp2; go_roundw
   case rel => exact ⟨k + 1, by omega, by go_num, jZE.step (fun h hb => h.ext hb) (fun h hp => h.setOld hp _) HW.o HE1.o hlt HX.o HV.o, ((hE.trans HE1.o).setCell (Nat.le_refl _) _).setCell (Nat.le_refl _) _⟩
   case measure => simp [intOf]; omega
  ·go_wp2
   go_ret; have e : k = n := by omega
   subst e; exact ⟨_, _, rfl, jZE.done (fun h hB => h.weak hB) hrow HN.o (Nat.le_refl _), hE⟩
theorem jY3Y (s t : Value) (x : List Lp × List St) (w : World) (hs : jZi w s x.1) (ht : jZD w t x.2) (h1 : jVI x.1) (h2 : jWu x.2) :
  Calls Tryz.prog 95 #[.agg #[s, t]] w fun e w' => ∃ p c q d, e = .returned (.agg #[.slice p x.1.length c, .slice q x.2.length d]) /\ jZr w.heap.size w' (.slice p x.1.length c) x.1 /\ StmtsO w.heap.size w' (.slice q x.2.length d) x.2 /\ Ext w w' := by
 obtain ⟨p, c, rfl, hm⟩ := hs.form
 obtain ⟨q, d, rfl, hm2⟩ := ht.form
 have HS := hid hs; have HT := hid ht; have H1 := hid h1; have H2 := hid h2; clear hs ht h1 h2
 generalize hga : w.heap.size = ga at *
 have HGA := hid hga; clear hga
 go_enter Tryz.func95, Tryz.ntmps95
 go_wp2_with (fail)
 refine (jY31 p _ c x.1 _ rfl (HS.o.ext ((((Ext.refl w).alloc _).alloc _).alloc _)) H1.o).mono ?_
 rintro e W1 ⟨p1, d1, rfl, hv, hE⟩
 have E1 : Hid (Ext w W1) := ((((Ext.refl w).alloc _).alloc _).alloc _).trans hE
 have BA := hE.blk (g := ga) (jZ4 (jZ4 (blk_at HGA.o.symm)))
 have BR := hE.blk (g := ga + 1) (jZ4 (blk_at (by simp [HGA.o])))
 have BO := hE.blk (g := ga + 1 + 1) (blk_at (by simp [HGA.o]))
 have hl := lt_of_block BO
 have HV := hid (hv.weak (B' := ga + 1 + 1 + 1) (by simp [HGA.o]))
 obtain ⟨a0, a1, -, -⟩ := blk2 (jZb (g' := ga + 1 + 1) (o' := 0) BA (by omega) (.slice p1 x.1.length d1))
 obtain ⟨o0, o1, f0, f1⟩ := blk2 BO
 have HBR := hid (jZb (g' := ga + 1 + 1) (o' := 0) BR (by omega) (.slice p1 x.1.length d1))
 have HBO := hid (jWV (c := .slice p1 x.1.length d1) BO)
 have E2 : Hid (Ext w (W1.setCell ⟨ga + 1 + 1, 0, none⟩ (.slice p1 x.1.length d1))) := E1.o.setCell (by rw [HGA.o]; simp <;> omega) _
 have HV2 := hid (HV.o.setOld (p := ⟨ga + 1 + 1, 0, none⟩) (by simp) (.slice p1 x.1.length d1))
 clear hE hv BA BR BO HV
 rw [HGA.o]
 go_wp2_with (fail)
 clear f0 f1 o0 o1 hl E1
 generalize W1.setCell ⟨ga + 1 + 1, 0, none⟩ (.slice p1 x.1.length d1) = W2 at *
 refine (jY2o q _ d x.2 _ rfl (HT.o.ext E2.o) H2.o).mono ?_
 rintro e W3 ⟨p3, d3, rfl, hv, hE⟩
 have E3 : Hid (Ext w W3) := E2.o.trans hE
 obtain ⟨o0, o1, f0, f1⟩ := blk2 (hE.blk HBO.o)
 obtain ⟨r0, r1, e0, e1⟩ := blk2 (hE.blk HBR.o)
 have hl := lt_of_block (hE.blk HBO.o)
 have HV3 := hid (HV2.o.ext hE)
 have HY3 := hid (hv.weak (B' := ga + 1 + 1 + 1) (by have := lt_of_block HBO.o; omega))
 clear hE hv HV2 a0 a1 HBO HBR
 go_wp2
 refine bodyPost_ret (v := .agg #[.slice p1 x.1.length d1, .slice p3 x.2.length d3]) (by simp [results, Tryz.results95, go_sem, r0, r1]) rfl ⟨_, _, _, _, rfl, ?_, ?_, ?_⟩
 ·refine jZr.weak (B := ga + 1 + 1 + 1) ?_ (by omega)
  repeat (refine jZr.setOld ?_ (by simp <;> omega) _)
  exact HV3.o
 ·refine StmtsO.weak (B := ga + 1 + 1 + 1) ?_ (by omega)
  repeat (refine StmtsO.setOld ?_ (by simp <;> omega) _)
  exact HY3.o
 ·repeat (refine Ext.setCell ?_ (by rw [HGA.o]; simp <;> omega) _)
  exact E3.o
theorem jY2S (p : Option Addr) (n c : Nat) (zs : List Pt) (w : World) (hn : zs.length = n) (hs : jZH w (.slice p n c) zs) (hsm : jW9 zs) :
  Calls Tryz.prog 49 #[.slice p n c] w fun e w' => ∃ q d, e = .returned (.slice q n d) /\ PartsO w.heap.size w' (.slice q n d) zs /\ Ext w w' := by
 have hm : n <= 1048576 := by rw [<- hn]; exact hsm.1
 obtain ⟨i0, hi, hz0, hz1, hz2⟩ := info_parts jY5U
 have HS := hid hs; clear hs
 have HN := hid hn; clear hn
 have HSM := hid hsm; clear hsm
 go_enter Tryz.func49, Tryz.ntmps49
 go_wp2_with (at_make; refine wpList_make_full _ rfl _ _ 30 rfl w.heap.size 145 i0 (.agg #[.slice none 0 0, .slice none 0 0]) 2 Tryz.underlying30 hi hz0 hz1 _ _ _ _ n rfl rfl rfl rfl ?b2 ?b3 (Nat.le_refl _) ?_)
 case b2 => rw [hz2]; omega
 case b3 => unfold maxLen; omega
 intro w0 hown0 hgrow0
 have HP := hid (show jZE 145 PartO w.heap.size (w.heap.size + 1) w.heap.size n zs 0 w0 from ⟨_, hown0, fun i x hi => absurd hi (by omega)⟩)
 have HG := hid ((Ext.refl w).grown hgrow0 (fun k h => by cases h))
 clear hown0 hgrow0 hi hz0 hz1 hz2
 go_wp2
 go_loopw [4] (fun i wr => ∃ k : Nat, k <= n /\ i = .int .i64 k /\ jZE 145 PartO w.heap.size (w.heap.size + 1) w.heap.size n zs k wr /\ Ext w wr) (fun i _ => n - (intOf i).toNat)
 case atStart => exact ⟨0, by omega, rfl, HP.o, HG.o⟩
 case round =>
  obtain ⟨k, hk, rfl, hrow, hE⟩ := hrel; by_cases hlt : k < n
  ·obtain ⟨x, hx⟩ := jZ0 (xs := zs) (k := k) (by rw [HN.o]; exact hlt)
   obtain ⟨b, off, q, m, q', m', rfl, c0, c1, hb, hr, hr'⟩ := (HS.o.ext hE).elem hx; have hxs := HSM.o.2 x (List.mem_of_getElem? hx); have HX := hid hx; have HR := hid hr; have HR' := hid hr'; have HW := hid hrow; have HXs := hid hxs; clear hx hr hr' hrow hxs; go_wp2_with (fail); refine (jY3Y _ _ x _ HR.o HR'.o HXs.o.1 HXs.o.2).mono ?_; rintro e w1 ⟨q1, m1, q2, m2, rfl, hv, hv', hE1⟩; obtain ⟨f0, f1, ⟨v0, d0⟩, ⟨v1, d1⟩, hg0, hg1⟩ := HW.o.open' hE1 hlt; have hB : w.heap.size + 1 <= wr.heap.size := by have := HW.o.open' (Ext.refl wr) hlt; omega
   have HV := hid (PartO.weak (B' := w.heap.size + 1) (show PartO wr.heap.size w1 _ _ x from ⟨hv, hv'⟩) hB); have HE1 := hid hE1; clear hE1 c0 c1; go_wp2; go_roundw
   case rel => exact ⟨k + 1, by omega, by go_num, jZE.step (fun h hb => h.ext hb) (fun h hp => h.setOld hp _) HW.o HE1.o hlt HX.o HV.o, ((hE.trans HE1.o).setCell (Nat.le_refl _) _).setCell (Nat.le_refl _) _⟩
   case measure => simp [intOf]; omega
  ·go_wp2
   go_ret; have e : k = n := by omega
   subst e; exact ⟨_, _, rfl, jZE.done (fun h hB => h.weak hB) hrow HN.o (Nat.le_refl _), hE⟩
theorem jY0y (s t : Value) (x : List Arr × List Pt) (w : World) (hs : ArrsAt w s x.1) (ht : jZH w t x.2) (h1 : jW6 x.1) (h2 : jW9 x.2) :
  Calls Tryz.prog 14 #[.agg #[s, t]] w fun e w' => ∃ p c q d, e = .returned (.agg #[.slice p x.1.length c, .slice q x.2.length d]) /\ ArrsO w.heap.size w' (.slice p x.1.length c) x.1 /\ PartsO w.heap.size w' (.slice q x.2.length d) x.2 /\ Ext w w' := by
 obtain ⟨p, c, rfl, hm⟩ := hs.form
 obtain ⟨q, d, rfl, hm2⟩ := ht.form
 have HS := hid hs; have HT := hid ht; have H1 := hid h1; have H2 := hid h2; clear hs ht h1 h2
 generalize hga : w.heap.size = ga at *
 have HGA := hid hga; clear hga
 go_enter Tryz.func14, Tryz.ntmps14
 go_wp2_with (fail)
 refine (jY20 p _ c x.1 _ rfl (HS.o.ext ((((Ext.refl w).alloc _).alloc _).alloc _)) H1.o).mono ?_
 rintro e W1 ⟨p1, d1, rfl, hv, hE⟩
 have E1 : Hid (Ext w W1) := ((((Ext.refl w).alloc _).alloc _).alloc _).trans hE
 have BA := hE.blk (g := ga) (jZ4 (jZ4 (blk_at HGA.o.symm)))
 have BR := hE.blk (g := ga + 1) (jZ4 (blk_at (by simp [HGA.o])))
 have BO := hE.blk (g := ga + 1 + 1) (blk_at (by simp [HGA.o]))
 have hl := lt_of_block BO
 have HV := hid (hv.weak (B' := ga + 1 + 1 + 1) (by simp [HGA.o]))
 obtain ⟨a0, a1, -, -⟩ := blk2 (jZb (g' := ga + 1 + 1) (o' := 0) BA (by omega) (.slice p1 x.1.length d1))
 obtain ⟨o0, o1, f0, f1⟩ := blk2 BO
 have HBR := hid (jZb (g' := ga + 1 + 1) (o' := 0) BR (by omega) (.slice p1 x.1.length d1))
 have HBO := hid (jWV (c := .slice p1 x.1.length d1) BO)
 have E2 : Hid (Ext w (W1.setCell ⟨ga + 1 + 1, 0, none⟩ (.slice p1 x.1.length d1))) := E1.o.setCell (by rw [HGA.o]; simp <;> omega) _
 have HV2 := hid (HV.o.setOld (p := ⟨ga + 1 + 1, 0, none⟩) (by simp) (.slice p1 x.1.length d1))
 clear hE hv BA BR BO HV
 rw [HGA.o]
 go_wp2_with (fail)
 clear f0 f1 o0 o1 hl E1
 generalize W1.setCell ⟨ga + 1 + 1, 0, none⟩ (.slice p1 x.1.length d1) = W2 at *
 refine (jY2S q _ d x.2 _ rfl (HT.o.ext E2.o) H2.o).mono ?_
 rintro e W3 ⟨p3, d3, rfl, hv, hE⟩
 have E3 : Hid (Ext w W3) := E2.o.trans hE
 obtain ⟨o0, o1, f0, f1⟩ := blk2 (hE.blk HBO.o)
 obtain ⟨r0, r1, e0, e1⟩ := blk2 (hE.blk HBR.o)
 have hl := lt_of_block (hE.blk HBO.o)
 have HV3 := hid (HV2.o.ext hE)
 have HY3 := hid (hv.weak (B' := ga + 1 + 1 + 1) (by have := lt_of_block HBO.o; omega))
 clear hE hv HV2 a0 a1 HBO HBR
 go_wp2
 refine bodyPost_ret (v := .agg #[.slice p1 x.1.length d1, .slice p3 x.2.length d3]) (by simp [results, Tryz.results14, go_sem, r0, r1]) rfl ⟨_, _, _, _, rfl, ?_, ?_, ?_⟩
 ·refine ArrsO.weak (B := ga + 1 + 1 + 1) ?_ (by omega)
  repeat (refine ArrsO.setOld ?_ (by simp <;> omega) _)
  exact HV3.o
 ·refine PartsO.weak (B := ga + 1 + 1 + 1) ?_ (by omega)
  repeat (refine PartsO.setOld ?_ (by simp <;> omega) _)
  exact HY3.o
 ·repeat (refine Ext.setCell ?_ (by rw [HGA.o]; simp <;> omega) _)
  exact E3.o
def PrO (B : Nat) (w : World) (v : Value) (ars : List Arr) (ps : List Pt) : Prop := ∃ u0 u1, v = .agg #[u0, u1] /\ ArrsO B w u0 ars /\ PartsO B w u1 ps
theorem PrO.at {B : Nat} {w : World} {v : Value} {ars : List Arr} {ps : List Pt} (h : PrO B w v ars ps) : PrR w v ars ps := by
 obtain ⟨u0, u1, h1, h2, h3⟩ := h
 exact ⟨u0, u1, h1, h2.at, h3.at⟩
theorem PrO.ext {B : Nat} {w w' : World} {v : Value} {ars : List Arr} {ps : List Pt} (h : PrO B w v ars ps) (hE : Ext w w') : PrO B w' v ars ps := by
 obtain ⟨u0, u1, h1, h2, h3⟩ := h
 exact ⟨u0, u1, h1, h2.ext hE, h3.ext hE⟩
theorem jXf (v : Value) (ars : List Arr) (ps : List Pt) (w : World) (h : PrR w v ars ps) (h1 : jW6 ars) (h2 : jW9 ps) :
  Calls Tryz.prog 14 #[v] w fun e w' => (∃ v', e = .returned v' /\ PrO w.heap.size w' v' ars ps) /\ Ext w w' := by
 obtain ⟨u0, u1, rfl, ha, hp⟩ := h
 refine (jY0y u0 u1 (ars, ps) w ha hp h1 h2).mono ?_
 rintro e w' ⟨p, c, q, d, rfl, h3, h4, hE⟩
 exact ⟨⟨_, rfl, _, _, rfl, h3, h4⟩, hE⟩
end
end Go.Proofs.YtklehkkclojccaaGreat
