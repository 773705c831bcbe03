/- The texts R1, joined. No statement is proved here. -/
import Derived.Test.YtccibfldadflkaaK12
import Derived.Test.YtccibfldadflkaaK28
import Derived.Maps.AppendAt
import Derived.Test.YtccibfldadflkaaK17
import Derived.Test.YtccibfldadflkaaK39
/- Points of a nest: how many iterations, which points; bounds of coordinates. No statement is proved here. | The model's count of iterations. | The model's points of a nest. | The model's NestPoints; a point of about a nest; the arguments of PointIn. | Prefixes of points in the order in which the program visits them, and that the model counts and lists the same. No statement is proved here. -/
namespace Go.Proofs.Ytccibfldadflkaa
open Go.RowKit

/-- How far a coordinate can be from zero. -/
def bnd : Nat → Int
  | 0 => 99
  | 1 => 990
  | 2 => 9900
  | _ => 99000
def PB (ps : List Int) : Prop := ∀ i x, ps[i]? = some x → -bnd i ≤ x ∧ x ≤ bnd i
theorem PB.nil : PB [] := fun i x h => by simp at h
def lpAt (ls : List Lp) (ps : List Int) : Lp := ls.getD ps.length ([], [])
end Go.Proofs.Ytccibfldadflkaa

namespace Go.Proofs.Ytccibfldadflkaa
open Go.RowKit

/-- A prefix of a point, as the model hands it on: nil, or a row. -/
def PreAt (w : World) (pv : Value) (ps : List Int) : Prop := (pv = .slice none 0 0 ∧ ps = []) ∨ ∃ b c', pv = .slice (some ⟨b, 0, none⟩) ps.length c' ∧ IntsAt w pv ps
theorem PreAt.at {w : World} {pv : Value} {ps : List Int} (h : PreAt w pv ps) : IntsAt w pv ps := by
  rcases h with ⟨rfl, rfl⟩ | ⟨b, c', rfl, h⟩
  · exact ⟨none, 0, rfl, by simp, fun i x h => by simp at h⟩
  · exact h
theorem PreAt.ext {w w' : World} {pv : Value} {ps : List Int} (h : PreAt w pv ps) (hE : Ext w w') : PreAt w' pv ps := by
  rcases h with h | ⟨b, c', e, h⟩
  · exact .inl h
  · exact .inr ⟨b, c', e, h.ext hE⟩
end Go.Proofs.Ytccibfldadflkaa

namespace Go.Proofs.Ytccibfldadflkaa
open Go.RowKit

/-- Lists of ints of the call's own. -/
def PtsOwn (B : Nat) (w : World) (v : Value) (xss : List (List Int)) : Prop := ∃ vs, w.ownsRow B 22 1 v xss.length vs ∧ ∀ (i : Nat) (xs : List Int), xss[i]? = some xs → ∃ u : Value, vs[i]? = some u ∧ IntsOwn B w u xs
/-- Whatever is no row of lists lies as it lay. -/
def Kt (w w' : World) : Prop := ∀ (g : Nat) (cs : Array Value) (T : TypeId) (fz : Nat × Nat), T ≠ 22 → w.heap[g]? = some (.cells cs T fz) → w'.heap[g]? = some (.cells cs T fz)
theorem Kt.refl (w : World) : Kt w w := fun _ _ _ _ _ h => h
theorem Kt.trans {a b c : World} (h : Kt a b) (k : Kt b c) : Kt a c := fun _ _ _ _ hT hg => k _ _ _ _ hT (h _ _ _ _ hT hg)
theorem Kt.ext {a b : World} (h : Ext a b) : Kt a b := fun _ _ _ _ _ hg => h.blk hg
theorem Kt.grown {a b : World} {row : Option Nat} (hg : a.grownBy b row) (ht : Tag a row 22) : Kt a b := fun _ _ _ _ hT h => blk_tag h hg ht (fun e => hT e.symm)
theorem PtsOwn.slice {B : Nat} {w : World} {v : Value} {xss : List (List Int)} (h : PtsOwn B w v xss) : ∃ p c, v = .slice p xss.length c := by
  obtain ⟨vs, ho, -⟩ := h
  rcases ho.2 with ⟨rfl, hn⟩ | ⟨g, cap, cur, rfl, _⟩
  · exact ⟨none, 0, by rw [hn]⟩
  · exact ⟨_, _, rfl⟩
theorem PtsOwn.ext {B : Nat} {w w' : World} {v : Value} {xss : List (List Int)} (h : PtsOwn B w v xss) (hE : Ext w w') : PtsOwn B w' v xss := by
  obtain ⟨vs, ho, he⟩ := h
  exact ⟨vs, ownsRow_ext ho hE, fun i xs hi => by obtain ⟨u, h0, h1⟩ := he i xs hi; exact ⟨u, h0, h1.ext hE⟩⟩
theorem PtsOwn.made {B g c : Nat} {w : World} (h : w.ownsRow B 22 1 (.slice (some ⟨g, 0, none⟩) 0 c) 0 []) : PtsOwn B w (.slice (some ⟨g, 0, none⟩) 0 c) [] := ⟨[], h, fun i x hi => by simp at hi⟩
theorem one_cell {L : Nat} {w : World} {u : Value} {t : TypeId} (hL : L = w.heap.size) : ∀ j v, [u][j]? = some v → (w.alloc (.cells #[u] t)).cell? ((⟨L, 0, none⟩ : Addr).add j) = some v := by
  subst hL
  intro q v hq
  match q, hq with
  | 0, hq => simp at hq; subst hq; simp [Addr.add]

end Go.Proofs.Ytccibfldadflkaa

namespace Go.Proofs.Ytccibfldadflkaa
open Go.RowKit

theorem PtsOwn.weak {B B' : Nat} {w : World} {v : Value} {xss : List (List Int)} (h : PtsOwn B w v xss) (hB : B' ≤ B) : PtsOwn B' w v xss := by
  obtain ⟨vs, ho, he⟩ := h
  exact ⟨vs, ownsRow_weak ho hB, fun i xs hi => by obtain ⟨u, h0, h1⟩ := he i xs hi; exact ⟨u, h0, h1.weak hB⟩⟩
theorem PtsOwn.get {B m c i : Nat} {w : World} {p : Option Addr} {xss : List (List Int)} (h : PtsOwn B w (.slice p m c) xss) (hm : xss.length = m) (hi : i < m) : ∃ g xs u, p = some ⟨g, 0, none⟩ ∧ w.cell? ⟨g, i, none⟩ = some u ∧ IntsOwn B w u xs ∧ xs ∈ xss := by
  obtain ⟨vs, ho, he⟩ := h
  rw [hm] at ho
  obtain ⟨xs, hx⟩ := get_some (xs := xss) (k := i) (by omega)
  obtain ⟨u, h0, h1⟩ := he i xs hx
  have hne : (Value.slice p m c) ≠ .slice none 0 0 := by intro e; simp at e; omega
  obtain ⟨g, c', e, -⟩ := own_form' ho hne
  simp only [Value.slice.injEq] at e
  obtain ⟨rfl, -, rfl⟩ := e
  exact ⟨g, xs, u, rfl, by rw [ho.cellAt i (by omega)]; exact h0, h1, List.mem_of_getElem? hx⟩

end Go.Proofs.Ytccibfldadflkaa

namespace Go.Proofs.Ytccibfldadflkaa
open Go.RowKit

def listLoop (f : Int → List (List Int)) : Nat → Int → List (List Int)
  | 0, _ => []
  | k + 1, v => f v ++ listLoop f k (v + 1)
def trips (ls : List Lp) (ps : List Int) : Nat := (hiV (lpAt ls ps) ps - loV (lpAt ls ps) ps).toNat
/-- The prefixes from ps on: ps, then those of the iterations of the next loop. -/
def pre (ls : List Lp) : Nat → List Int → List (List Int)
  | 0, ps => [ps]
  | d + 1, ps => ps :: listLoop (fun v => pre ls d (ps ++ [v])) (trips ls ps) (loV (lpAt ls ps) ps)
end Go.Proofs.Ytccibfldadflkaa
