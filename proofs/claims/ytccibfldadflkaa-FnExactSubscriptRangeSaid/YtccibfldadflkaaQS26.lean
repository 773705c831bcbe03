/- The texts S2, joined. No statement is proved here. -/
import Derived.Test.YtccibfldadflkaaQS39
import Derived.Test.YtccibfldadflkaaQS12
/- Copies of accesses and expressions. No statement is proved here. -/
namespace Go.Proofs.Ytccibfldadflkaa
open Go.RowKit

/-- The seven cells are a node of the call's own, from block B on. -/
inductive ExO (B : Nat) (w : World) : List Value → Ex → Prop
  | mk (kind num k : Int) (u s : Value) (xs : List Int) (arr : ByteArray) (subs : List Aff) (p : Option Addr) (cap : Nat) (kids : List Ex) (us : Nat → List Value) (vs : List Value) (hu : IntsOwn B w u xs) (ha : arr.size ≤ 9223372036854775807) (hs : AffsOwn B w s subs)
      (ho : w.ownsRow B 54 7 (.slice p kids.length cap) kids.length vs)
      (hv : ∀ (i : Nat) (e : Ex), kids[i]? = some e → ∀ (j : Nat) (v : Value), (us i)[j]? = some v → vs[i * 7 + j]? = some v)
      (hk : ∀ (i : Nat) (e : Ex), kids[i]? = some e → ExO B w (us i) e) :
      ExO B w [.int .i64 kind, .int .i64 num, u, .int .i64 k, .string arr, s, .slice p kids.length cap] (.mk kind num (xs, k) arr subs kids)
theorem ExO.map {B B' : Nat} {w w' : World} {cs : List Value} {e : Ex} (h : ExO B w cs e) (hi : ∀ {v xs}, IntsOwn B w v xs → IntsOwn B' w' v xs) (ha : ∀ {v xs}, AffsOwn B w v xs → AffsOwn B' w' v xs) (hr : ∀ {v n vs}, w.ownsRow B 54 7 v n vs → w'.ownsRow B' 54 7 v n vs) : ExO B' w' cs e := by
  induction h with
  | mk kind num k u s xs arr subs p cap kids us vs hu har hs ho hv hk ih => exact .mk kind num k u s xs arr subs p cap kids us vs (hi hu) har (ha hs) (hr ho) hv ih
theorem ExO.ext {B : Nat} {w w' : World} {cs : List Value} {e : Ex} (h : ExO B w cs e) (hE : Ext w w') : ExO B w' cs e := h.map (fun h => h.ext hE) (fun h => h.ext hE) (fun h => ownsRow_ext h hE)
theorem ExO.weak {B B' : Nat} {w : World} {cs : List Value} {e : Ex} (h : ExO B w cs e) (hB : B' ≤ B) : ExO B' w cs e := h.map (fun h => h.weak hB) (fun h => h.weak hB) (fun h => ownsRow_weak h hB)
theorem ExO.setOld {B : Nat} {w : World} {cs : List Value} {e : Ex} (h : ExO B w cs e) {p : Addr} (hp : p.block < B) (u : Value) : ExO B (w.setCell p u) cs e := h.map (fun h => h.setOld hp u) (fun h => h.setOld hp u) (fun h => ownsRow_setCell_below h hp u)
/-- A row of nodes of the call's own. -/
def ExsO (B : Nat) (w : World) (v : Value) (es : List Ex) : Prop := ∃ p c, ∃ us : Nat → List Value, ∃ vs, v = .slice p es.length c ∧ w.ownsRow B 54 7 v es.length vs ∧
  (∀ (i : Nat) (e : Ex), es[i]? = some e → ∀ (j : Nat) (v : Value), (us i)[j]? = some v → vs[i * 7 + j]? = some v) ∧ ∀ (i : Nat) (e : Ex), es[i]? = some e → ExO B w (us i) e
theorem ExO.of {B : Nat} {w : World} {u s v : Value} {kind num k : Int} {xs : List Int} {arr : ByteArray} {subs : List Aff} {kids : List Ex} (hu : IntsOwn B w u xs) (ha : arr.size ≤ 9223372036854775807) (hs : AffsOwn B w s subs) (hv : ExsO B w v kids) :
    ExO B w [.int .i64 kind, .int .i64 num, u, .int .i64 k, .string arr, s, v] (.mk kind num (xs, k) arr subs kids) := by
  obtain ⟨p, c, us, vs, rfl, ho, h1, h2⟩ := hv
  exact .mk kind num k u s xs arr subs p c kids us vs hu ha hs ho h1 h2
theorem ExO.at {B : Nat} {w : World} {cs : List Value} {e : Ex} (h : ExO B w cs e) : ExR w cs e := by
  induction h with
  | mk kind num k u s xs arr subs p cap kids us vs hu ha hs ho hv hk ih =>
    have hl : kids.length ≤ 9223372036854775807 := by
      rcases ho.2 with ⟨_, hn⟩ | ⟨g, c, cur, _, _, _, h1, h2, _⟩
      · omega
      · unfold maxLen at h2; omega
    refine .mk kind num k u s xs arr subs p cap kids us hu.at ha hs.at hl (fun i e hi => ?_) ih
    have hlt := (List.getElem?_eq_some_iff.1 hi).1
    rcases ho.2 with ⟨_, hn⟩ | ⟨g, c, cur, hv', _, hgh, _⟩
    · omega
    · cases hv'
      refine ⟨g, 0, rfl, (Array.getElem?_eq_some_iff.1 hgh).1, fun j v hj => ?_⟩
      have h1 := hv i e hi j v hj
      have h2 := World.ownsRow.cells ho (g := g) rfl (i * 7 + j) v h1
      rw [Addr.add_lit, Nat.zero_add] at h2
      rw [Nat.zero_add]
      exact h2
theorem ExsO.at {B : Nat} {w : World} {v : Value} {es : List Ex} (h : ExsO B w v es) : ExsAt w v es := by
  have h1 := (ExO.of (kind := 0) (num := 0) (k := 0) (xs := []) (arr := ByteArray.empty) (subs := []) (u := .slice none 0 0) (s := .slice none 0 0) (World.ownsRow_nil w B _ _) (by decide) ⟨[], World.ownsRow_nil w B _ _, fun i x hi => by simp at hi⟩ h).at.parts
  obtain ⟨u, s, v', hcs, _, _, _, hv⟩ := h1
  simp only [List.cons.injEq, and_true] at hcs
  rw [hcs.2.2.2.2.2.2]
  exact hv

def set7 (l : List Value) (m : Nat) (a0 a1 a2 a3 a4 a5 a6 : Value) : List Value := ((((((l.set m a0).set (m + 1) a1).set (m + 2) a2).set (m + 3) a3).set (m + 4) a4).set (m + 5) a5).set (m + 6) a6
theorem set7_out {l : List Value} {m i : Nat} {a0 a1 a2 a3 a4 a5 a6 : Value} (h : i < m ∨ m + 6 < i) : (set7 l m a0 a1 a2 a3 a4 a5 a6)[i]? = l[i]? := by
  unfold set7
  rw [List.getElem?_set_ne (by omega), List.getElem?_set_ne (by omega), List.getElem?_set_ne (by omega), List.getElem?_set_ne (by omega), List.getElem?_set_ne (by omega), List.getElem?_set_ne (by omega), List.getElem?_set_ne (by omega)]
theorem set7_in {l : List Value} {m j : Nat} {a0 a1 a2 a3 a4 a5 a6 v : Value} (hl : m + 6 < l.length) (h : [a0, a1, a2, a3, a4, a5, a6][j]? = some v) : (set7 l m a0 a1 a2 a3 a4 a5 a6)[m + j]? = some v := by
  have hj : j < 7 := (List.getElem?_eq_some_iff.1 h).1
  unfold set7
  match j, hj, h with
  | 0, _, h => simp at h; subst h; (repeat (rw [List.getElem?_set_ne (by omega)])); rw [Nat.add_zero, List.getElem?_set_self (by omega)]
  | 1, _, h => simp at h; subst h; (repeat (rw [List.getElem?_set_ne (by omega)])); rw [List.getElem?_set_self (by simp; omega)]
  | 2, _, h => simp at h; subst h; (repeat (rw [List.getElem?_set_ne (by omega)])); rw [List.getElem?_set_self (by simp; omega)]
  | 3, _, h => simp at h; subst h; (repeat (rw [List.getElem?_set_ne (by omega)])); rw [List.getElem?_set_self (by simp; omega)]
  | 4, _, h => simp at h; subst h; (repeat (rw [List.getElem?_set_ne (by omega)])); rw [List.getElem?_set_self (by simp; omega)]
  | 5, _, h => simp at h; subst h; (repeat (rw [List.getElem?_set_ne (by omega)])); rw [List.getElem?_set_self (by simp; omega)]
  | 6, _, h => simp at h; subst h; rw [List.getElem?_set_self (by simp; omega)]
def put7 (w : World) (g m : Nat) (a0 a1 a2 a3 a4 a5 a6 : Value) : World := ((((((w.setCell ⟨g, m, none⟩ a0).setCell ⟨g, m + 1, none⟩ a1).setCell ⟨g, m + 2, none⟩ a2).setCell ⟨g, m + 3, none⟩ a3).setCell ⟨g, m + 4, none⟩ a4).setCell ⟨g, m + 5, none⟩ a5).setCell ⟨g, m + 6, none⟩ a6
theorem put7_own {B g n cap m : Nat} {e : TypeId} {w : World} {vs : List Value} {a0 a1 a2 a3 a4 a5 a6 : Value} (h : w.ownsRow B e 7 (.slice (some ⟨g, 0, none⟩) n cap) n vs) : (put7 w g m a0 a1 a2 a3 a4 a5 a6).ownsRow B e 7 (.slice (some ⟨g, 0, none⟩) n cap) n (set7 vs m a0 a1 a2 a3 a4 a5 a6) :=
  ((((((((h.stored m a0).1.stored (m + 1) a1).1.stored (m + 2) a2).1.stored (m + 3) a3).1.stored (m + 4) a4).1.stored (m + 5) a5).1).stored (m + 6) a6).1
theorem put7_exo {B g m : Nat} {w : World} {cs : List Value} {e : Ex} {a0 a1 a2 a3 a4 a5 a6 : Value} (h : ExO B w cs e) (hg : g < B) : ExO B (put7 w g m a0 a1 a2 a3 a4 a5 a6) cs e :=
  ((((((h.setOld (p := ⟨g, m, none⟩) hg a0).setOld (p := ⟨g, m + 1, none⟩) hg a1).setOld (p := ⟨g, m + 2, none⟩) hg a2).setOld (p := ⟨g, m + 3, none⟩) hg a3).setOld (p := ⟨g, m + 4, none⟩) hg a4).setOld (p := ⟨g, m + 5, none⟩) hg a5).setOld (p := ⟨g, m + 6, none⟩) hg a6
/-- The first k nodes of a row of n are written. -/
def RowE (B Bi g n : Nat) (es : List Ex) (k : Nat) (w : World) : Prop := ∃ (vs : List Value) (us : Nat → List Value), w.ownsRow B 54 7 (.slice (some ⟨g, 0, none⟩) n n) n vs ∧
  ∀ (i : Nat) (e : Ex), i < k → es[i]? = some e → (us i).length = 7 ∧ (∀ (j : Nat) (v : Value), (us i)[j]? = some v → vs[i * 7 + j]? = some v) ∧ ExO Bi w (us i) e
theorem RowE.open' {B Bi g n k : Nat} {es : List Ex} {w w1 : World} (h : RowE B Bi g n es k w) (hE : Ext w w1) (hk : k < n) :
    (∀ j, w1.frozen? ⟨g, k * 7 + j, none⟩ = false) ∧ (∀ j, j < 7 → ∃ v, w1.cell? ⟨g, k * 7 + j, none⟩ = some v) ∧ B ≤ g ∧ g < w1.heap.size := by
  obtain ⟨vs, us, ho, _⟩ := h
  have ho := ownsRow_ext ho hE
  have hl := ho.1
  have := ho.lt g rfl
  refine ⟨fun j => ho.frozenAt _, fun j hj => ?_, this.1, this.2⟩
  rw [ho.cellAt (k * 7 + j) (by omega)]; exact get_some (by omega)
theorem RowE.step {B g n k : Nat} {es : List Ex} {w w1 : World} {a0 a1 a2 a3 a4 a5 a6 : Value} {x : Ex} (h : RowE B (g + 1) g n es k w) (hE : Ext w w1) (hk : k < n) (hx : es[k]? = some x) (hr : ExO (g + 1) w1 [a0, a1, a2, a3, a4, a5, a6] x) :
    RowE B (g + 1) g n es (k + 1) (put7 w1 g (k * 7) a0 a1 a2 a3 a4 a5 a6) := by
  obtain ⟨vs, us, ho, hv⟩ := h
  have ho := ownsRow_ext ho hE
  have hl := ho.1
  refine ⟨_, fun i => if i = k then [a0, a1, a2, a3, a4, a5, a6] else us i, put7_own ho, fun i y hi hy => ?_⟩
  by_cases e : i = k
  · subst e
    rw [hx] at hy; cases hy
    simp only [if_true]
    exact ⟨rfl, fun j v hj => set7_in (by omega) hj, put7_exo hr (by omega)⟩
  · simp only [if_neg e]
    obtain ⟨h7, h0, h1⟩ := hv i y (by omega) hy
    refine ⟨h7, fun j v hj => ?_, put7_exo (h1.ext hE) (by omega)⟩
    have hj7 : j < 7 := by rw [← h7]; exact (List.getElem?_eq_some_iff.1 hj).1
    rw [set7_out (by omega)]
    exact h0 j v hj
theorem RowE.done {B g n : Nat} {es : List Ex} {w : World} (h : RowE B (g + 1) g n es n w) (hn : es.length = n) (hB : B ≤ g) : ExsO B w (.slice (some ⟨g, 0, none⟩) n n) es := by
  obtain ⟨vs, us, ho, hv⟩ := h
  refine ⟨_, n, us, vs, by rw [hn], by rw [hn]; exact ho, fun i e hi j v hj => ?_, fun i e hi => ?_⟩
  · exact (hv i e (by rw [← hn]; exact (List.getElem?_eq_some_iff.1 hi).1) hi).2.1 j v hj
  · exact (hv i e (by rw [← hn]; exact (List.getElem?_eq_some_iff.1 hi).1) hi).2.2.weak (by omega)
end Go.Proofs.Ytccibfldadflkaa
