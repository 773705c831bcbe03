/- The texts A17 S1 S2, joined. No statement is proved here. -/
import Derived.Test.YtccibfldadflkaaQV42
import Derived.Test.YtccibfldadflkaaQV02
import Derived.Deep.AppendLies
import Derived.Deep.RegionLaw
import Derived.Deep.DeepCutAuto
import Derived.Deep.RegionHeld3
import Derived.Test.YtccibfldadflkaaQV49
import Derived.Test.YtccibfldadflkaaQV34
/- Contracts: the model's substitution. -/
namespace Go.Proofs.Ytccibfldadflkaa
open Go.RowKit

end Go.Proofs.Ytccibfldadflkaa

/- Sizes of statements. No statement is proved here. -/
namespace Go.Proofs.Ytccibfldadflkaa
open Go.RowKit

theorem blk7 {W : World} {g : Nat} {a0 a1 a2 a3 a4 a5 a6 : Value} {t : TypeId} (h : W.heap[g]? = some (.cells #[a0, a1, a2, a3, a4, a5, a6] t (0, 0))) :
    W.cell? ⟨g, 0, none⟩ = some a0 ∧ W.cell? ⟨g, 1, none⟩ = some a1 ∧ W.cell? ⟨g, 2, none⟩ = some a2 ∧ W.cell? ⟨g, 3, none⟩ = some a3 ∧ W.cell? ⟨g, 4, none⟩ = some a4 ∧ W.cell? ⟨g, 5, none⟩ = some a5 ∧ W.cell? ⟨g, 6, none⟩ = some a6 := by
  simp [World.cell?, h]

end Go.Proofs.Ytccibfldadflkaa

/- Copies of accesses and expressions. No statement is proved here. -/
namespace Go.Proofs.Ytccibfldadflkaa
open Go.RowKit

/-- The seven cells are a node of the call's own, from block B on. -/
inductive ExO (B : Nat) (w : World) : List Value → Ex → Prop
  | mk (kind num k : Int) (u s : Value) (xs : List Int) (arr : ByteArray) (subs : List Aff) (p : Option Addr) (cap : Nat) (kids : List Ex) (us : Nat → List Value) (vs : List Value) (hu : IntsOwn B w u xs) (ha : arr.size ≤ 9223372036854775807) (hs : AffsOwn B w s subs)
      (ho : w.ownsRow B 54 7 (.slice p kids.length cap) kids.length vs)
      (hv : ∀ (i : Nat) (e : Ex), kids[i]? = some e → ∀ (j : Nat) (v : Value), (us i)[j]? = some v → vs[i * 7 + j]? = some v)
      (hk : ∀ (i : Nat) (e : Ex), kids[i]? = some e → ExO B w (us i) e) :
      ExO B w [.int .i64 kind, .int .i64 num, u, .int .i64 k, .string arr, s, .slice p kids.length cap] (.mk kind num (xs, k) arr subs kids)
theorem ExO.map {B B' : Nat} {w w' : World} {cs : List Value} {e : Ex} (h : ExO B w cs e) (hi : ∀ {v xs}, IntsOwn B w v xs → IntsOwn B' w' v xs) (ha : ∀ {v xs}, AffsOwn B w v xs → AffsOwn B' w' v xs) (hr : ∀ {v n vs}, w.ownsRow B 54 7 v n vs → w'.ownsRow B' 54 7 v n vs) : ExO B' w' cs e := by
  induction h with
  | mk kind num k u s xs arr subs p cap kids us vs hu har hs ho hv hk ih => exact .mk kind num k u s xs arr subs p cap kids us vs (hi hu) har (ha hs) (hr ho) hv ih
theorem ExO.ext {B : Nat} {w w' : World} {cs : List Value} {e : Ex} (h : ExO B w cs e) (hE : Ext w w') : ExO B w' cs e := h.map (fun h => h.ext hE) (fun h => h.ext hE) (fun h => ownsRow_ext h hE)
theorem ExO.weak {B B' : Nat} {w : World} {cs : List Value} {e : Ex} (h : ExO B w cs e) (hB : B' ≤ B) : ExO B' w cs e := h.map (fun h => h.weak hB) (fun h => h.weak hB) (fun h => ownsRow_weak h hB)
theorem ExO.setOld {B : Nat} {w : World} {cs : List Value} {e : Ex} (h : ExO B w cs e) {p : Addr} (hp : p.block < B) (u : Value) : ExO B (w.setCell p u) cs e := h.map (fun h => h.setOld hp u) (fun h => h.setOld hp u) (fun h => ownsRow_setCell_below h hp u)
/-- A row of nodes of the call's own. -/
def ExsO (B : Nat) (w : World) (v : Value) (es : List Ex) : Prop := ∃ p c, ∃ us : Nat → List Value, ∃ vs, v = .slice p es.length c ∧ w.ownsRow B 54 7 v es.length vs ∧
  (∀ (i : Nat) (e : Ex), es[i]? = some e → ∀ (j : Nat) (v : Value), (us i)[j]? = some v → vs[i * 7 + j]? = some v) ∧ ∀ (i : Nat) (e : Ex), es[i]? = some e → ExO B w (us i) e
theorem ExO.of {B : Nat} {w : World} {u s v : Value} {kind num k : Int} {xs : List Int} {arr : ByteArray} {subs : List Aff} {kids : List Ex} (hu : IntsOwn B w u xs) (ha : arr.size ≤ 9223372036854775807) (hs : AffsOwn B w s subs) (hv : ExsO B w v kids) :
    ExO B w [.int .i64 kind, .int .i64 num, u, .int .i64 k, .string arr, s, v] (.mk kind num (xs, k) arr subs kids) := by
  obtain ⟨p, c, us, vs, rfl, ho, h1, h2⟩ := hv
  exact .mk kind num k u s xs arr subs p c kids us vs hu ha hs ho h1 h2
theorem ExO.at {B : Nat} {w : World} {cs : List Value} {e : Ex} (h : ExO B w cs e) : ExR w cs e := by
  induction h with
  | mk kind num k u s xs arr subs p cap kids us vs hu ha hs ho hv hk ih =>
    have hl : kids.length ≤ 9223372036854775807 := by
      rcases ho.2 with ⟨_, hn⟩ | ⟨g, c, cur, _, _, _, h1, h2, _⟩
      · omega
      · unfold maxLen at h2; omega
    refine .mk kind num k u s xs arr subs p cap kids us hu.at ha hs.at hl (fun i e hi => ?_) ih
    have hlt := (List.getElem?_eq_some_iff.1 hi).1
    rcases ho.2 with ⟨_, hn⟩ | ⟨g, c, cur, hv', _, hgh, _⟩
    · omega
    · cases hv'
      refine ⟨g, 0, rfl, (Array.getElem?_eq_some_iff.1 hgh).1, fun j v hj => ?_⟩
      have h1 := hv i e hi j v hj
      have h2 := World.ownsRow.cells ho (g := g) rfl (i * 7 + j) v h1
      rw [Addr.add_lit, Nat.zero_add] at h2
      rw [Nat.zero_add]
      exact h2
theorem ExsO.at {B : Nat} {w : World} {v : Value} {es : List Ex} (h : ExsO B w v es) : ExsAt w v es := by
  have h1 := (ExO.of (kind := 0) (num := 0) (k := 0) (xs := []) (arr := ByteArray.empty) (subs := []) (u := .slice none 0 0) (s := .slice none 0 0) (World.ownsRow_nil w B _ _) (by decide) ⟨[], World.ownsRow_nil w B _ _, fun i x hi => by simp at hi⟩ h).at.parts
  obtain ⟨u, s, v', hcs, _, _, _, hv⟩ := h1
  simp only [List.cons.injEq, and_true] at hcs
  rw [hcs.2.2.2.2.2.2]
  exact hv

theorem ExO.seven {B : Nat} {w : World} {cs : List Value} {e : Ex} (h : ExO B w cs e) : ∃ kind num q1 n1 d1 k arr q2 n2 d2 q3 n3 d3, cs = [.int .i64 kind, .int .i64 num, .slice q1 n1 d1, .int .i64 k, .string arr, .slice q2 n2 d2, .slice q3 n3 d3] := by
  cases h with
  | mk kind num k u s xs arr subs p cap kids us vs hu ha hs ho hv hk =>
    obtain ⟨q1, d1, rfl, -, -⟩ := hu.at
    obtain ⟨q2, d2, rfl, -⟩ := hs.at.form
    exact ⟨_, _, _, _, _, _, _, _, _, _, _, _, _, rfl⟩
/-- The first k nodes of a row of n are written. -/
def RowE (B Bi g n : Nat) (es : List Ex) (k : Nat) (w : World) : Prop := ∃ (vs : List Value) (us : Nat → List Value), w.ownsRow B 54 7 (.slice (some ⟨g, 0, none⟩) n n) n vs ∧
  ∀ (i : Nat) (e : Ex), i < k → es[i]? = some e → (us i).length = 7 ∧ (∀ (j : Nat) (v : Value), (us i)[j]? = some v → vs[i * 7 + j]? = some v) ∧ ExO Bi w (us i) e
theorem RowE.done {B g n : Nat} {es : List Ex} {w : World} (h : RowE B (g + 1) g n es n w) (hn : es.length = n) (hB : B ≤ g) : ExsO B w (.slice (some ⟨g, 0, none⟩) n n) es := by
  obtain ⟨vs, us, ho, hv⟩ := h
  refine ⟨_, n, us, vs, by rw [hn], by rw [hn]; exact ho, fun i e hi j v hj => ?_, fun i e hi => ?_⟩
  · exact (hv i e (by rw [← hn]; exact (List.getElem?_eq_some_iff.1 hi).1) hi).2.1 j v hj
  · exact (hv i e (by rw [← hn]; exact (List.getElem?_eq_some_iff.1 hi).1) hi).2.2.weak (by omega)
theorem infoExpr : (Try.prog.info? 54).map (fun i => (i.zero, i.size, i.bytes)) = some (some (.agg #[.int .i64 0, .int .i64 0, .slice none 0 0, .int .i64 0, .string ⟨#[]⟩, .slice none 0 0, .slice none 0 0]), 7, 112) := by kernel_rfl

theorem blk7f {W : World} {g : Nat} {a0 a1 a2 a3 a4 a5 a6 : Value} {t : TypeId} (h : W.heap[g]? = some (.cells #[a0, a1, a2, a3, a4, a5, a6] t (0, 0))) (j : Nat) : W.frozen? ⟨g, j, none⟩ = false := by
  simp [World.frozen?, h]
theorem blk7_23 {W : World} {g : Nat} {a0 a1 a2 a3 a4 a5 a6 u v : Value} {t : TypeId} (h : W.heap[g]? = some (.cells #[a0, a1, a2, a3, a4, a5, a6] t (0, 0))) : ((W.setCell ⟨g, 2, none⟩ u).setCell ⟨g, 3, none⟩ v).heap[g]? = some (.cells #[a0, a1, u, v, a4, a5, a6] t (0, 0)) := by
  have h1 := heap_setCell_same W g 2 _ t u h
  have h2 := heap_setCell_same _ g 3 _ t v h1
  simpa using h2
theorem blk7_45 {W : World} {g : Nat} {a0 a1 a2 a3 a4 a5 a6 u v : Value} {t : TypeId} (h : W.heap[g]? = some (.cells #[a0, a1, a2, a3, a4, a5, a6] t (0, 0))) : ((W.setCell ⟨g, 4, none⟩ u).setCell ⟨g, 5, none⟩ v).heap[g]? = some (.cells #[a0, a1, a2, a3, u, v, a6] t (0, 0)) := by
  have h1 := heap_setCell_same W g 4 _ t u h
  have h2 := heap_setCell_same _ g 5 _ t v h1
  simpa using h2

end Go.Proofs.Ytccibfldadflkaa
