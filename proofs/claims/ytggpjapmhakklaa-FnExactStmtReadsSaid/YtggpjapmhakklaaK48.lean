/- The texts G2 G31, joined. No statement is proved here. -/
import Derived.Test.YtggpjapmhakklaaK34
import Derived.Test.YtggpjapmhakklaaK02
import Derived.Laws.IdiomStrings
/- Copies of arrays, lists of statements, parts, programs. (Written by g2.py.) No statement is proved here. -/
namespace Go.Proofs.Ytggpjapmhakklaa
open Go.RowKit

theorem StO.map {B B' : Nat} {w w' : World} {v : Value} {a : ByteArray} {su : List Aff} {e : Ex} (h : StO B w v a su e) (hi : ∀ {v xs}, IntsOwn B w v xs → IntsOwn B' w' v xs) (ha : ∀ {v xs}, AffsOwn B w v xs → AffsOwn B' w' v xs) (hr : ∀ {v n vs}, w.ownsRow B 48 7 v n vs → w'.ownsRow B' 48 7 v n vs) : StO B' w' v a su e := by
  obtain ⟨s, cs, h1, h2, h3, h4⟩ := h
  exact ⟨s, cs, h1, h2, ha h3, h4.map hi ha hr⟩
theorem StO.ext {B : Nat} {w w' : World} {v : Value} {a : ByteArray} {su : List Aff} {e : Ex} (h : StO B w v a su e) (hE : Ext w w') : StO B w' v a su e := h.map (fun h => h.ext hE) (fun h => h.ext hE) (fun h => ownsRow_ext h hE)
theorem StO.weak {B B' : Nat} {w : World} {v : Value} {a : ByteArray} {su : List Aff} {e : Ex} (h : StO B w v a su e) (hB : B' ≤ B) : StO B' w v a su e := h.map (fun h => h.weak hB) (fun h => h.weak hB) (fun h => ownsRow_weak h hB)
theorem StO.setOld {B : Nat} {w : World} {v : Value} {a : ByteArray} {su : List Aff} {e : Ex} (h : StO B w v a su e) {p : Addr} (hp : p.block < B) (u : Value) : StO B (w.setCell p u) v a su e := h.map (fun h => h.setOld hp u) (fun h => h.setOld hp u) (fun h => ownsRow_setCell_below h hp u)
/-- A row of statements of the call's own. -/
def StmtsO (B : Nat) (w : World) (v : Value) (ss : List St) : Prop := ∃ p c, ∃ us : Nat → List Value, ∃ vs, v = .slice p ss.length c ∧ w.ownsRow B 50 9 v ss.length vs ∧
  (∀ (i : Nat) (s : St), ss[i]? = some s → ∀ (j : Nat) (v : Value), (us i)[j]? = some v → vs[i * 9 + j]? = some v) ∧ ∀ (i : Nat) (s : St), ss[i]? = some s → StO B w (.agg (us i).toArray) s.1 s.2.1 s.2.2
theorem StmtsO.map {B B' : Nat} {w w' : World} {v : Value} {ss : List St} (h : StmtsO B w v ss) (hi : ∀ {v xs}, IntsOwn B w v xs → IntsOwn B' w' v xs) (ha : ∀ {v xs}, AffsOwn B w v xs → AffsOwn B' w' v xs) (hr : ∀ {v n vs}, w.ownsRow B 48 7 v n vs → w'.ownsRow B' 48 7 v n vs) (hs : ∀ {v n vs}, w.ownsRow B 50 9 v n vs → w'.ownsRow B' 50 9 v n vs) : StmtsO B' w' v ss := by
  obtain ⟨p, c, us, vs, h1, h2, h3, h4⟩ := h
  exact ⟨p, c, us, vs, h1, hs h2, h3, fun i s hi' => (h4 i s hi').map hi ha hr⟩
theorem StmtsO.ext {B : Nat} {w w' : World} {v : Value} {ss : List St} (h : StmtsO B w v ss) (hE : Ext w w') : StmtsO B w' v ss := h.map (fun h => h.ext hE) (fun h => h.ext hE) (fun h => ownsRow_ext h hE) (fun h => ownsRow_ext h hE)
theorem StmtsO.weak {B B' : Nat} {w : World} {v : Value} {ss : List St} (h : StmtsO B w v ss) (hB : B' ≤ B) : StmtsO B' w v ss := h.map (fun h => h.weak hB) (fun h => h.weak hB) (fun h => ownsRow_weak h hB) (fun h => ownsRow_weak h hB)
theorem StmtsO.setOld {B : Nat} {w : World} {v : Value} {ss : List St} (h : StmtsO B w v ss) {p : Addr} (hp : p.block < B) (u : Value) : StmtsO B (w.setCell p u) v ss := h.map (fun h => h.setOld hp u) (fun h => h.setOld hp u) (fun h => ownsRow_setCell_below h hp u) (fun h => ownsRow_setCell_below h hp u)
theorem StmtsO.at {B : Nat} {w : World} {v : Value} {ss : List St} (h : StmtsO B w v ss) : StmtsAt w v ss := by
  obtain ⟨p, c, us, vs, rfl, ho, hv, hk⟩ := h
  have hl : ss.length ≤ 9223372036854775807 := by
    rcases ho.2 with ⟨_, hn⟩ | ⟨g, c, cur, _, _, _, h1, h2, _⟩
    · omega
    · unfold maxLen at h2; omega
  refine ⟨p, c, us, rfl, hl, fun i e hi => ?_, fun i e hi => (hk i e hi).at⟩
  have hlt := (List.getElem?_eq_some_iff.1 hi).1
  rcases ho.2 with ⟨_, hn⟩ | ⟨g, c, cur, hv', _, hgh, _⟩
  · omega
  · cases hv'
    refine ⟨g, 0, rfl, (Array.getElem?_eq_some_iff.1 hgh).1, fun j v hj => ?_⟩
    have h1 := hv i e hi j v hj
    have h2 := World.ownsRow.cells ho (g := g) rfl (i * 9 + j) v h1
    rw [Addr.add_lit, Nat.zero_add] at h2
    rw [Nat.zero_add]
    exact h2
def set9 (l : List Value) (m : Nat) (a0 a1 a2 a3 a4 a5 a6 a7 a8 : Value) : List Value := (((((((((l.set (m) a0).set (m + 1) a1).set (m + 2) a2).set (m + 3) a3).set (m + 4) a4).set (m + 5) a5).set (m + 6) a6).set (m + 7) a7).set (m + 8) a8)
theorem set9_out {l : List Value} {m i : Nat} {a0 a1 a2 a3 a4 a5 a6 a7 a8 : Value} (h : i < m ∨ m + 8 < i) : (set9 l m a0 a1 a2 a3 a4 a5 a6 a7 a8)[i]? = l[i]? := by
  unfold set9
  rw [List.getElem?_set_ne (by omega), List.getElem?_set_ne (by omega), List.getElem?_set_ne (by omega), List.getElem?_set_ne (by omega), List.getElem?_set_ne (by omega), List.getElem?_set_ne (by omega), List.getElem?_set_ne (by omega), List.getElem?_set_ne (by omega), List.getElem?_set_ne (by omega)]
theorem set9_in {l : List Value} {m j : Nat} {a0 a1 a2 a3 a4 a5 a6 a7 a8 v : Value} (hl : m + 8 < l.length) (h : [a0, a1, a2, a3, a4, a5, a6, a7, a8][j]? = some v) : (set9 l m a0 a1 a2 a3 a4 a5 a6 a7 a8)[m + j]? = some v := by
  have hj : j < 9 := (List.getElem?_eq_some_iff.1 h).1
  unfold set9
  match j, hj, h with
  | 0, _, h => simp at h; subst h; (repeat (rw [List.getElem?_set_ne (by omega)])); rw [Nat.add_zero, List.getElem?_set_self (by omega)]
  | 1, _, h => simp at h; subst h; (repeat (rw [List.getElem?_set_ne (by omega)])); rw [List.getElem?_set_self (by simp; omega)]
  | 2, _, h => simp at h; subst h; (repeat (rw [List.getElem?_set_ne (by omega)])); rw [List.getElem?_set_self (by simp; omega)]
  | 3, _, h => simp at h; subst h; (repeat (rw [List.getElem?_set_ne (by omega)])); rw [List.getElem?_set_self (by simp; omega)]
  | 4, _, h => simp at h; subst h; (repeat (rw [List.getElem?_set_ne (by omega)])); rw [List.getElem?_set_self (by simp; omega)]
  | 5, _, h => simp at h; subst h; (repeat (rw [List.getElem?_set_ne (by omega)])); rw [List.getElem?_set_self (by simp; omega)]
  | 6, _, h => simp at h; subst h; (repeat (rw [List.getElem?_set_ne (by omega)])); rw [List.getElem?_set_self (by simp; omega)]
  | 7, _, h => simp at h; subst h; (repeat (rw [List.getElem?_set_ne (by omega)])); rw [List.getElem?_set_self (by simp; omega)]
  | 8, _, h => simp at h; subst h; rw [List.getElem?_set_self (by simp; omega)]
def put9 (w : World) (g m : Nat) (a0 a1 a2 a3 a4 a5 a6 a7 a8 : Value) : World := (((((((((w.setCell ⟨g, m, none⟩ a0).setCell ⟨g, m + 1, none⟩ a1).setCell ⟨g, m + 2, none⟩ a2).setCell ⟨g, m + 3, none⟩ a3).setCell ⟨g, m + 4, none⟩ a4).setCell ⟨g, m + 5, none⟩ a5).setCell ⟨g, m + 6, none⟩ a6).setCell ⟨g, m + 7, none⟩ a7).setCell ⟨g, m + 8, none⟩ a8)
theorem put9_own {B g n cap m : Nat} {e : TypeId} {w : World} {vs : List Value} {a0 a1 a2 a3 a4 a5 a6 a7 a8 : Value} (h : w.ownsRow B e 9 (.slice (some ⟨g, 0, none⟩) n cap) n vs) : (put9 w g m a0 a1 a2 a3 a4 a5 a6 a7 a8).ownsRow B e 9 (.slice (some ⟨g, 0, none⟩) n cap) n (set9 vs m a0 a1 a2 a3 a4 a5 a6 a7 a8) :=
  (((((((((h.stored (m) a0).1.stored (m + 1) a1).1.stored (m + 2) a2).1.stored (m + 3) a3).1.stored (m + 4) a4).1.stored (m + 5) a5).1.stored (m + 6) a6).1.stored (m + 7) a7).1.stored (m + 8) a8).1
theorem put9_sto {B g m : Nat} {w : World} {v : Value} {s : St} {a0 a1 a2 a3 a4 a5 a6 a7 a8 : Value} (h : StO B w v s.1 s.2.1 s.2.2) (hg : g < B) : StO B (put9 w g m a0 a1 a2 a3 a4 a5 a6 a7 a8) v s.1 s.2.1 s.2.2 :=
  (((((((((h.setOld (p := ⟨g, m, none⟩) hg a0).setOld (p := ⟨g, m + 1, none⟩) hg a1).setOld (p := ⟨g, m + 2, none⟩) hg a2).setOld (p := ⟨g, m + 3, none⟩) hg a3).setOld (p := ⟨g, m + 4, none⟩) hg a4).setOld (p := ⟨g, m + 5, none⟩) hg a5).setOld (p := ⟨g, m + 6, none⟩) hg a6).setOld (p := ⟨g, m + 7, none⟩) hg a7).setOld (p := ⟨g, m + 8, none⟩) hg a8)
/-- The first k statements of a row of n are written. -/
def RowS (B Bi g n : Nat) (es : List St) (k : Nat) (w : World) : Prop := ∃ (vs : List Value) (us : Nat → List Value), w.ownsRow B 50 9 (.slice (some ⟨g, 0, none⟩) n n) n vs ∧
  ∀ (i : Nat) (e : St), i < k → es[i]? = some e → (us i).length = 9 ∧ (∀ (j : Nat) (v : Value), (us i)[j]? = some v → vs[i * 9 + j]? = some v) ∧ StO Bi w (.agg (us i).toArray) e.1 e.2.1 e.2.2
theorem RowS.open' {B Bi g n k : Nat} {es : List St} {w w1 : World} (h : RowS B Bi g n es k w) (hE : Ext w w1) (hk : k < n) :
    (∀ j, w1.frozen? ⟨g, k * 9 + j, none⟩ = false) ∧ (∀ j, j < 9 → ∃ v, w1.cell? ⟨g, k * 9 + j, none⟩ = some v) ∧ B ≤ g ∧ g < w1.heap.size := by
  obtain ⟨vs, us, ho, _⟩ := h
  have ho := ownsRow_ext ho hE
  have hl := ho.1
  have := ho.lt g rfl
  refine ⟨fun j => ho.frozenAt _, fun j hj => ?_, this.1, this.2⟩
  rw [ho.cellAt (k * 9 + j) (by omega)]; exact get_some (by omega)
theorem RowS.step {B g n k : Nat} {es : List St} {w w1 : World} {a0 a1 a2 a3 a4 a5 a6 a7 a8 : Value} {x : St} (h : RowS B (g + 1) g n es k w) (hE : Ext w w1) (hk : k < n) (hx : es[k]? = some x) (hr : StO (g + 1) w1 (.agg #[a0, a1, a2, a3, a4, a5, a6, a7, a8]) x.1 x.2.1 x.2.2) :
    RowS B (g + 1) g n es (k + 1) (put9 w1 g (k * 9) a0 a1 a2 a3 a4 a5 a6 a7 a8) := by
  obtain ⟨vs, us, ho, hv⟩ := h
  have ho := ownsRow_ext ho hE
  have hl := ho.1
  refine ⟨_, fun i => if i = k then [a0, a1, a2, a3, a4, a5, a6, a7, a8] else us i, put9_own ho, fun i y hi hy => ?_⟩
  by_cases e : i = k
  · subst e
    rw [hx] at hy; cases hy
    simp only [if_true]
    exact ⟨rfl, fun j v hj => set9_in (by omega) hj, put9_sto hr (by omega)⟩
  · simp only [if_neg e]
    obtain ⟨h9, h0, h1⟩ := hv i y (by omega) hy
    refine ⟨h9, fun j v hj => ?_, put9_sto (h1.ext hE) (by omega)⟩
    have hj9 : j < 9 := by rw [← h9]; exact (List.getElem?_eq_some_iff.1 hj).1
    rw [set9_out (by omega)]
    exact h0 j v hj
theorem RowS.done {B g n : Nat} {es : List St} {w : World} (h : RowS B (g + 1) g n es n w) (hn : es.length = n) (hB : B ≤ g) : StmtsO B w (.slice (some ⟨g, 0, none⟩) n n) es := by
  obtain ⟨vs, us, ho, hv⟩ := h
  refine ⟨_, n, us, vs, by rw [hn], by rw [hn]; exact ho, fun i e hi j v hj => ?_, fun i e hi => ?_⟩
  · exact (hv i e (by rw [← hn]; exact (List.getElem?_eq_some_iff.1 hi).1) hi).2.1 j v hj
  · exact (hv i e (by rw [← hn]; exact (List.getElem?_eq_some_iff.1 hi).1) hi).2.2.weak (by omega)
def ArrO (B : Nat) (w : World) (u0 u1 : Value) (a : Arr) : Prop := u0 = .string a.1 ∧ a.1.size ≤ 9223372036854775807 ∧ IntsOwn B w u1 a.2
theorem ArrO.ext {B : Nat} {w w' : World} {u0 u1 : Value} {a : Arr} (h : ArrO B w u0 u1 a) (hE : Ext w w') : ArrO B w' u0 u1 a := ⟨h.1, h.2.1, h.2.2.ext hE⟩
theorem ArrO.weak {B B' : Nat} {w : World} {u0 u1 : Value} {a : Arr} (h : ArrO B w u0 u1 a) (hB : B' ≤ B) : ArrO B' w u0 u1 a := ⟨h.1, h.2.1, h.2.2.weak hB⟩
theorem ArrO.setOld {B : Nat} {w : World} {u0 u1 : Value} {a : Arr} (h : ArrO B w u0 u1 a) {p : Addr} (hp : p.block < B) (u : Value) : ArrO B (w.setCell p u) u0 u1 a := ⟨h.1, h.2.1, h.2.2.setOld hp u⟩
end Go.Proofs.Ytggpjapmhakklaa

/- Marks in what is the call's own, without footprints: the shape of what lies from a block on stays (slices are not written), and nothing else turns. Texts of marks, marks in ints, expressions, loops, arrays. No statement is proved here. -/
namespace Go.Proofs.Ytggpjapmhakklaa
open Go.RowKit

/-- What w0 holds from block B on lies in w too, cell by cell, and its slices are the same. -/
structure Sh (B : Nat) (w0 w : World) : Prop where
  size : w0.heap.size ≤ w.heap.size
  cell : ∀ g o u, B ≤ g → g < w0.heap.size → w0.cell? ⟨g, o, none⟩ = some u → ∃ u', w.cell? ⟨g, o, none⟩ = some u'
  slc : ∀ g o p n c, B ≤ g → g < w0.heap.size → w0.cell? ⟨g, o, none⟩ = some (.slice p n c) → w.cell? ⟨g, o, none⟩ = some (.slice p n c)
  frz : ∀ g o, B ≤ g → g < w0.heap.size → w0.frozen? ⟨g, o, none⟩ = false → w.frozen? ⟨g, o, none⟩ = false
theorem Sh.refl (B : Nat) (w : World) : Sh B w w := ⟨Nat.le_refl _, fun _ _ u _ _ h => ⟨u, h⟩, fun _ _ _ _ _ _ _ h => h, fun _ _ _ _ h => h⟩
def NoSl (u : Value) : Prop := ∀ p n c, u ≠ .slice p n c
theorem NoSl.int (x : Int) : NoSl (.int .i64 x) := fun _ _ _ h => by cases h
theorem NoSl.str (x : ByteArray) : NoSl (.string x) := fun _ _ _ h => by cases h
theorem frozen_block {w w' : World} {g o : Nat} (h : w'.heap[g]? = w.heap[g]?) : w'.frozen? ⟨g, o, none⟩ = w.frozen? ⟨g, o, none⟩ := by
  simp only [World.frozen?, h]
theorem Sh.ext {B : Nat} {w0 w w' : World} (h : Sh B w0 w) (hE : Ext w w') : Sh B w0 w' := by
  have hb : ∀ g, g < w0.heap.size → w'.heap[g]? = w.heap[g]? := fun g hg => hE.block g (Nat.lt_of_lt_of_le hg h.size)
  refine ⟨Nat.le_trans h.size hE.size, fun g o u h1 h2 h3 => ?_, fun g o p n c h1 h2 h3 => ?_, fun g o h1 h2 h3 => ?_⟩
  · rw [World.cell?_of_block (hb g h2)]; exact h.cell g o u h1 h2 h3
  · rw [World.cell?_of_block (hb g h2)]; exact h.slc g o p n c h1 h2 h3
  · rw [frozen_block (hb g h2)]; exact h.frz g o h1 h2 h3
theorem Sh.set {B : Nat} {w0 w : World} (h : Sh B w0 w) {g o : Nat} {u : Value} (hg : w0.cell? ⟨g, o, none⟩ = some u) (hu : NoSl u) (x : Value) : Sh B w0 (w.setCell ⟨g, o, none⟩ x) := by
  refine ⟨by rw [World.size_setCell]; exact h.size, fun g' o' u' h1 h2 h3 => ?_, fun g' o' p n c h1 h2 h3 => ?_, fun g' o' h1 h2 h3 => ?_⟩
  · by_cases e : (⟨g, o, none⟩ : Addr) = ⟨g', o', none⟩
    · cases e
      obtain ⟨u2, h4⟩ := h.cell g o u' h1 h2 h3
      exact ⟨x, World.cell?_setCell_same _ _ _ h4⟩
    · rw [World.cell?_setCell_other _ _ _ _ e]; exact h.cell g' o' u' h1 h2 h3
  · by_cases e : (⟨g, o, none⟩ : Addr) = ⟨g', o', none⟩
    · cases e
      rw [hg] at h3; cases h3
      exact absurd rfl (hu p n c)
    · rw [World.cell?_setCell_other _ _ _ _ e]; exact h.slc g' o' p n c h1 h2 h3
  · rw [World.frozen?_setCell]; exact h.frz g' o' h1 h2 h3

/-- From w to w' only what w0 holds from block B on is written, and its shape stays. -/
structure Mk (B : Nat) (w0 w w' : World) : Prop where
  sh : Sh B w0 w'
  lv : Lv (fun b => B ≤ b ∧ b < w0.heap.size) w w'
theorem Mk.refl {B : Nat} {w0 w : World} (h : Sh B w0 w) : Mk B w0 w w := ⟨h, Lv.refl _ _⟩
theorem Mk.trans {B : Nat} {w0 a b c : World} (h : Mk B w0 a b) (k : Mk B w0 b c) : Mk B w0 a c := ⟨k.sh, h.lv.trans k.lv (fun _ _ h => h) (fun _ _ h => h)⟩
theorem Mk.ext {B : Nat} {w0 a b c : World} (h : Mk B w0 a b) (hE : Ext b c) : Mk B w0 a c := h.trans ⟨h.sh.ext hE, hE.lv⟩
theorem Mk.set {B : Nat} {w0 a b : World} (h : Mk B w0 a b) {g o : Nat} {u : Value} (hB : B ≤ g) (hl : g < w0.heap.size) (hg : w0.cell? ⟨g, o, none⟩ = some u) (hu : NoSl u) (x : Value) : Mk B w0 a (b.setCell ⟨g, o, none⟩ x) :=
  h.trans ⟨h.sh.set hg hu x, ⟨rfl, rfl, rfl, by rw [World.size_setCell]; exact Nat.le_refl _, fun k _ hn => Below.heap_setCell _ _ _ _ (fun e => hn (by rw [e]; exact ⟨hB, hl⟩))⟩⟩

/-- A cell of a row that w0 holds. -/
structure Cl (B : Nat) (w0 : World) (g o : Nat) (u : Value) : Prop where
  lo : B ≤ g
  hi : g < w0.heap.size
  cell : w0.cell? ⟨g, o, none⟩ = some u
  frz : w0.frozen? ⟨g, o, none⟩ = false
theorem Cl.of {B g n c j size : Nat} {e : TypeId} {w0 : World} {vs : List Value} {u : Value} (ho : w0.ownsRow B e size (.slice (some ⟨g, 0, none⟩) n c) n vs) (hu : vs[j]? = some u) : Cl B w0 g j u := by
  have h := ho.lt g rfl
  have hl := ho.1
  have hj := (List.getElem?_eq_some_iff.1 hu).1
  exact ⟨h.1, h.2, by rw [ho.cellAt j (by omega)]; exact hu, ho.frozenAt j⟩
theorem slRow_at {B n c size : Nat} {e : TypeId} {w0 : World} {p : Option Addr} {vs : List Value} (ho : w0.ownsRow B e size (.slice p n c) n vs) (h : 0 < n) : ∃ g, p = some ⟨g, 0, none⟩ := by
  rcases ho.2 with ⟨_, h0⟩ | ⟨g, cap, cur, h, _⟩
  · omega
  · exact ⟨g, (Value.slice.inj h).1⟩
theorem row_form {B n size : Nat} {e : TypeId} {w0 : World} {v : Value} {vs : List Value} (ho : w0.ownsRow B e size v n vs) : ∃ p c, v = .slice p n c := by
  rcases ho.2 with ⟨h, h0⟩ | ⟨g, cap, cur, h, _⟩
  · exact ⟨none, 0, by rw [h, h0]⟩
  · exact ⟨_, _, h⟩
theorem row_len {B n size : Nat} {e : TypeId} {w0 : World} {v : Value} {vs : List Value} (ho : w0.ownsRow B e size v n vs) : n ≤ 9223372036854775807 := by
  rcases ho.2 with ⟨h, h0⟩ | ⟨g, cap, cur, _, _, _, h1, h2, _⟩
  · omega
  · unfold maxLen at h2; omega
theorem Cl.open {B g o : Nat} {w0 w : World} {u : Value} (h : Cl B w0 g o u) (hS : Sh B w0 w) : w.frozen? ⟨g, o, none⟩ = false ∧ (∃ v, w.cell? ⟨g, o, none⟩ = some v) ∧ g < w.heap.size :=
  ⟨hS.frz g o h.lo h.hi h.frz, hS.cell g o u h.lo h.hi h.cell, Nat.lt_of_lt_of_le h.hi hS.size⟩
theorem Cl.slc {B g o n c : Nat} {w0 w : World} {p : Option Addr} (h : Cl B w0 g o (.slice p n c)) (hS : Sh B w0 w) : w.cell? ⟨g, o, none⟩ = some (.slice p n c) := hS.slc g o p n c h.lo h.hi h.cell
theorem Mk.put {B : Nat} {w0 a b : World} (h : Mk B w0 a b) {g o : Nat} {u : Value} (hc : Cl B w0 g o u) (hu : NoSl u) (x : Value) : Mk B w0 a (b.setCell ⟨g, o, none⟩ x) := h.set hc.lo hc.hi hc.cell hu x

/-- How many marks a list takes. -/
def tot {α : Type} (f : α → Nat) : List α → Nat
  | [] => 0
  | x :: r => f x + tot f r
theorem tot_app {α : Type} (f : α → Nat) (xs ys : List α) : tot f (xs ++ ys) = tot f xs + tot f ys := by
  induction xs with
  | nil => simp [tot]
  | cons x r ih => simp only [List.cons_append, tot, ih]; omega
theorem tot_next {α : Type} (f : α → Nat) {xs : List α} {k : Nat} {x : α} (h : xs[k]? = some x) : tot f (xs.take (k + 1)) = tot f (xs.take k) + f x := by
  rw [take_next h, tot_app]; simp [tot]
theorem tot_take {α : Type} (f : α → Nat) (xs : List α) (k : Nat) : tot f (xs.take k) ≤ tot f xs := by
  conv => rhs; rw [← List.take_append_drop k xs, tot_app]
  omega
theorem tot_at {α : Type} (f : α → Nat) {xs : List α} {k : Nat} {x : α} (h : xs[k]? = some x) : tot f (xs.take k) + f x ≤ tot f xs := by
  rw [← tot_next f h]; exact tot_take f xs (k + 1)
def cA (a : Aff) : Nat := a.1.length + 1
theorem size_pre (b : UInt8) (s : ByteArray) : (ByteArray.mk #[b] ++ s).size = s.size + 1 := by
  rw [ByteArray.size_append]
  have : (ByteArray.mk #[b]).size = 1 := rfl
  omega
theorem mconv1 (w : World) (g c : Nat) (hc : c ≤ 255) (h : w.cell? ⟨g, 0, none⟩ = some (.int .u8 (c : Int))) : Sem.run Try.prog (convert 139 9 (.slice (some ⟨g, 0, none⟩) 1 1)) w = .ok (.string ⟨#[UInt8.ofNat c]⟩) w := by
  have := run_convert_bytes_back (P := Try.prog) w 139 9 5 ⟨g, 0, none⟩ 1 [UInt8.ofNat c] Try.underlying139 Try.underlying5 Try.underlying9 (fun j hj => by
    match j, hj with
    | 0, _ =>
      simp only [List.getElem_cons_zero]
      rw [Addr.add_lit]
      simp only [Nat.add_zero]
      rw [h]
      congr 2
      simp [UInt8.toNat_ofNat']
      omega)
  exact this
set_option maxRecDepth 100000 in
set_option maxHeartbeats 1000000 in
theorem markText_any (k : Int) (w : World) (hk : 0 ≤ k) (hk1 : k ≤ 1000000000000) :
    Calls Try.prog 56 #[.int .i64 k] w fun e w' => (∃ s, e = .returned (.string s)) ∧ Ext w w' := by
  go_enter Try.func56, Try.ntmps56
  by_cases h0 : k = 0
  · subst h0
    go_wp2
    go_ret
    exact ⟨⟨_, rfl⟩, Ext.refl w⟩
  · have hd : decide (k ≤ 0) = false := by simp; omega
    go_wp2
    go_loopw [0, 3] (fun kk o wr => ∃ (j : Nat) (s : ByteArray), kk = .int .i64 j ∧ o = .string s ∧ (j : Int) ≤ k ∧ (s.size : Int) + j ≤ k ∧ Ext w wr) (fun kk _ _ => (intOf kk).toNat)
    case atStart =>
      refine ⟨k.toNat, ByteArray.mk #[], ?_, rfl, by omega, ?_, Ext.refl w⟩
      · rw [Int.toNat_of_nonneg hk]
      · have : (ByteArray.mk #[]).size = 0 := rfl
        rw [this]; omega
    case round =>
      obtain ⟨j, s, rfl, rfl, hj1, hjs, hE⟩ := hrel
      by_cases hp : 0 < j
      · have hd2 : decide ((j : Int) > 0) = true := by simp; omega
        obtain ⟨u, hu, hu9⟩ : ∃ u : Nat, (j : Int) % 10 = (u : Int) ∧ u ≤ 9 := ⟨j % 10, by omega, by omega⟩
        obtain ⟨q, hq, hq9⟩ : ∃ q : Nat, (j : Int) / 10 = (q : Int) ∧ q < j := ⟨j / 10, by omega, by omega⟩
        have hcv := mconv1 (wr.alloc (.cells #[.int .u8 (48 + (u : Int))] 5)) wr.heap.size (48 + u) (by omega) (by simp [go_sem])
        have HE := Lib.hid hE; clear hE
        go_wp2
        go_roundw
        case rel => exact ⟨q, _, by go_num, rfl, by omega, by rw [size_pre]; omega, HE.out.alloc _⟩
        case measure => simp [intOf]; omega
      · have e : j = 0 := by omega
        subst e
        go_wp2
        go_ret
        exact ⟨⟨_, rfl⟩, hE⟩

set_option maxRecDepth 100000 in
set_option maxHeartbeats 1000000 in
theorem markIntS_sh (B : Nat) (w0 : World) (v : Value) (xs : List Int) (k : Int) (w : World) (h : IntsOwn B w0 v xs) (hS : Sh B w0 w) (hk : 0 ≤ k) (hk1 : k + xs.length ≤ 1000000000000) :
    Calls Try.prog 15 #[v, .int .i64 k] w fun e w' => e = .returned (.int .i64 (k + (xs.length : Nat))) ∧ Mk B w0 w w' := by
  obtain ⟨p, c, rfl⟩ := row_form h
  have ho : w0.ownsRow B 3 1 (.slice p xs.length c) xs.length (xs.map (Value.int .i64)) := h
  have HO := Lib.hid ho; have HM := Lib.hid (Mk.refl hS); clear h ho hS
  generalize hn : xs.length = n at *
  have HN := Lib.hid hn; clear hn
  go_enter Try.func15, Try.ntmps15
  go_wp2
  go_loopw [1, 5] (fun kk i wr => ∃ j : Nat, j ≤ n ∧ i = .int .i64 j ∧ kk = .int .i64 (k + j) ∧ Mk B w0 w wr) (fun _ i _ => n - (intOf i).toNat)
  case atStart => exact ⟨0, by omega, rfl, by simp, HM.out⟩
  case round =>
    obtain ⟨j, hj, rfl, rfl, hmk⟩ := hrel
    have HMK := Lib.hid hmk; clear hmk
    by_cases hlt : j < n
    · obtain ⟨g, rfl⟩ := slRow_at HO.out (by omega)
      obtain ⟨x, hx⟩ := get_some (xs := xs) (k := j) (by rw [HN.out]; exact hlt)
      have hc : Cl B w0 g j (.int .i64 x) := Cl.of HO.out (by simp [hx])
      obtain ⟨hfr, ⟨v0, hcc⟩, hgl⟩ := hc.open HMK.out.sh
      have HC := Lib.hid hc; clear hc hx
      go_wp2
      go_roundw
      case rel => exact ⟨j + 1, by omega, by go_num, by go_num, HMK.out.put HC.out (NoSl.int x) _⟩
      case measure => simp [intOf]; omega
    · have e : j = n := by omega
      subst e
      go_wp2
      go_ret
      exact ⟨rfl, HMK.out⟩

set_option maxRecDepth 100000 in
set_option maxHeartbeats 1000000 in
theorem markAffineS_sh (B : Nat) (w0 : World) (v : Value) (xs : List Aff) (k : Int) (w : World) (h : AffsOwn B w0 v xs) (hS : Sh B w0 w) (hk : 0 ≤ k) (hk1 : k + tot cA xs ≤ 1000000000000) :
    Calls Try.prog 57 #[v, .int .i64 k] w fun e w' => e = .returned (.int .i64 (k + (tot cA xs : Nat))) ∧ Mk B w0 w w' := by
  obtain ⟨vs, ho, hel⟩ := h
  have hlen := row_len ho
  obtain ⟨p, c, rfl⟩ := row_form ho
  have HO := Lib.hid ho; have HM := Lib.hid (Mk.refl hS); have HEL := Lib.hid hel; clear ho hel hS
  generalize hn : xs.length = n at *
  have HN := Lib.hid hn; clear hn
  go_enter Try.func57, Try.ntmps57
  go_wp2
  go_loopw [1, 5] (fun kk i wr => ∃ j : Nat, j ≤ n ∧ i = .int .i64 j ∧ kk = .int .i64 (k + (tot cA (xs.take j) : Nat)) ∧ Mk B w0 w wr) (fun _ i _ => n - (intOf i).toNat)
  case atStart => exact ⟨0, by omega, rfl, by simp [tot], HM.out⟩
  case round =>
    obtain ⟨j, hj, rfl, rfl, hmk⟩ := hrel
    have HMK := Lib.hid hmk; clear hmk
    by_cases hlt : j < n
    · obtain ⟨g, rfl⟩ := slRow_at HO.out (by omega)
      obtain ⟨x, hx⟩ := get_some (xs := xs) (k := j) (by rw [HN.out]; exact hlt)
      obtain ⟨u0, u1, hv0, hv1, hu0, rfl⟩ := HEL.out j x hx
      obtain ⟨q, d, rfl⟩ := row_form hu0
      have hc0 := Cl.of HO.out hv0
      have hc1 := Cl.of HO.out hv1
      have hl0 := hc0.slc HMK.out.sh
      have hgl := (hc1.open HMK.out.sh).2.2
      have hnx := tot_next cA hx
      have hat := tot_at cA hx
      have HC1 := Lib.hid hc1; have HU := Lib.hid hu0; have HNX := Lib.hid hnx
      obtain ⟨t, ht⟩ : ∃ t, tot cA (xs.take j) = t := ⟨_, rfl⟩
      have HXL : Hid (cA x = x.1.length + 1) := Lib.hid rfl
      obtain ⟨m, hm⟩ : ∃ m, x.1.length = m := ⟨_, rfl⟩
      have hcx : cA x = m + 1 := by rw [HXL.out, hm]
      rw [ht, hcx] at hat
      rw [ht, hcx] at HNX
      rw [ht]
      rw [hm] at hl0
      have HHM := Lib.hid hm
      clear hc0 hc1 hv0 hv1 hu0 hnx hx ht hm hcx
      go_wp2_with (fail)
      refine (markIntS_sh B w0 _ x.1 (k + (t : Nat)) _ (by rw [← HHM.out]; exact HU.out) HMK.out.sh (by omega) (by rw [HHM.out]; omega)).mono ?_
      rw [HHM.out]
      rintro e w1 ⟨rfl, hmk1⟩
      have HMK1 := Lib.hid (HMK.out.trans hmk1); clear hmk1 hl0 hgl
      obtain ⟨hfr, ⟨v0, hcc⟩, hgl⟩ := HC1.out.open HMK1.out.sh
      go_wp2
      go_roundw
      case rel => exact ⟨j + 1, by omega, by go_num, by rw [HNX.out]; go_num, HMK1.out.put HC1.out (NoSl.int _) _⟩
      case measure => simp [intOf]; omega
    · have e : j = n := by omega
      subst e
      have ht : xs.take j = xs := List.take_of_length_le (by rw [HN.out]; omega)
      rw [ht]
      go_wp2
      go_ret
      exact ⟨rfl, HMK.out⟩
end Go.Proofs.Ytggpjapmhakklaa
