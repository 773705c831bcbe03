/- The texts R1, joined. No statement is proved here. -/
import Derived.Test.YtccibfldadflkaaQV11
import Derived.Test.YtccibfldadflkaaQV31
import Derived.Maps.AppendAt
import Derived.Test.YtccibfldadflkaaQV37
import Derived.Test.YtccibfldadflkaaQV33
/- Points of a nest: how many iterations, which points; bounds of coordinates. No statement is proved here. | The model's count of iterations. | The model's points of a nest. | The model's NestPoints; a point of about a nest; the arguments of PointIn. | Prefixes of points in the order in which the program visits them, and that the model counts and lists the same. No statement is proved here. -/
namespace Go.Proofs.Ytccibfldadflkaa
open Go.RowKit

/-- How far a coordinate can be from zero. -/
def bnd : Nat → Int
  | 0 => 99
  | 1 => 990
  | 2 => 9900
  | _ => 99000
def PB (ps : List Int) : Prop := ∀ i x, ps[i]? = some x → -bnd i ≤ x ∧ x ≤ bnd i
theorem PB.nil : PB [] := fun i x h => by simp at h
theorem PB.push {ps : List Int} {v : Int} (h : PB ps) (h0 : -bnd ps.length ≤ v) (h1 : v ≤ bnd ps.length) : PB (ps ++ [v]) := fun i x hi => by
  rcases Nat.lt_or_ge i ps.length with hl | hl
  · rw [List.getElem?_append_left hl] at hi; exact h i x hi
  · rw [List.getElem?_append_right hl] at hi
    have hi0 : i - ps.length = 0 := by
      rcases Nat.eq_zero_or_pos (i - ps.length) with h | h
      · exact h
      · rw [List.getElem?_eq_none (by simp; omega)] at hi; cases hi
    rw [hi0] at hi
    simp at hi
    subst hi
    rw [show i = ps.length by omega]
    exact ⟨h0, h1⟩
end Go.Proofs.Ytccibfldadflkaa

namespace Go.Proofs.Ytccibfldadflkaa
open Go.RowKit

/-- A prefix of a point, as the model hands it on: nil, or a row. -/
def PreAt (w : World) (pv : Value) (ps : List Int) : Prop := (pv = .slice none 0 0 ∧ ps = []) ∨ ∃ b c', pv = .slice (some ⟨b, 0, none⟩) ps.length c' ∧ IntsAt w pv ps
theorem PreAt.at {w : World} {pv : Value} {ps : List Int} (h : PreAt w pv ps) : IntsAt w pv ps := by
  rcases h with ⟨rfl, rfl⟩ | ⟨b, c', rfl, h⟩
  · exact ⟨none, 0, rfl, by simp, fun i x h => by simp at h⟩
  · exact h
theorem PreAt.ext {w w' : World} {pv : Value} {ps : List Int} (h : PreAt w pv ps) (hE : Ext w w') : PreAt w' pv ps := by
  rcases h with h | ⟨b, c', e, h⟩
  · exact .inl h
  · exact .inr ⟨b, c', e, h.ext hE⟩
end Go.Proofs.Ytccibfldadflkaa

namespace Go.Proofs.Ytccibfldadflkaa
open Go.RowKit

/-- Lists of ints of the call's own. -/
def PtsOwn (B : Nat) (w : World) (v : Value) (xss : List (List Int)) : Prop := ∃ vs, w.ownsRow B 22 1 v xss.length vs ∧ ∀ (i : Nat) (xs : List Int), xss[i]? = some xs → ∃ u : Value, vs[i]? = some u ∧ IntsOwn B w u xs
/-- Whatever is no row of lists lies as it lay. -/
def Kt (w w' : World) : Prop := ∀ (g : Nat) (cs : Array Value) (T : TypeId) (fz : Nat × Nat), T ≠ 22 → w.heap[g]? = some (.cells cs T fz) → w'.heap[g]? = some (.cells cs T fz)
theorem Kt.refl (w : World) : Kt w w := fun _ _ _ _ _ h => h
theorem Kt.trans {a b c : World} (h : Kt a b) (k : Kt b c) : Kt a c := fun _ _ _ _ hT hg => k _ _ _ _ hT (h _ _ _ _ hT hg)
theorem Kt.ext {a b : World} (h : Ext a b) : Kt a b := fun _ _ _ _ _ hg => h.blk hg
theorem Kt.grown {a b : World} {row : Option Nat} (hg : a.grownBy b row) (ht : Tag a row 22) : Kt a b := fun _ _ _ _ hT h => blk_tag h hg ht (fun e => hT e.symm)
theorem PtsOwn.slice {B : Nat} {w : World} {v : Value} {xss : List (List Int)} (h : PtsOwn B w v xss) : ∃ p c, v = .slice p xss.length c := by
  obtain ⟨vs, ho, -⟩ := h
  rcases ho.2 with ⟨rfl, hn⟩ | ⟨g, cap, cur, rfl, _⟩
  · exact ⟨none, 0, by rw [hn]⟩
  · exact ⟨_, _, rfl⟩
theorem PtsOwn.ext {B : Nat} {w w' : World} {v : Value} {xss : List (List Int)} (h : PtsOwn B w v xss) (hE : Ext w w') : PtsOwn B w' v xss := by
  obtain ⟨vs, ho, he⟩ := h
  exact ⟨vs, ownsRow_ext ho hE, fun i xs hi => by obtain ⟨u, h0, h1⟩ := he i xs hi; exact ⟨u, h0, h1.ext hE⟩⟩
theorem PtsOwn.push {B m : Nat} {w w' : World} {v v' u : Value} {xss : List (List Int)} {ps : List Int} {vs : List Value} (hm : xss.length = m) (he : ∀ (i : Nat) (xs : List Int), xss[i]? = some xs → ∃ u : Value, vs[i]? = some u ∧ IntsOwn B w u xs) (hvl : vs.length = m)
    (ho' : w'.ownsRow B 22 1 v' (m + 1) (vs ++ [u])) (hg : w.grownBy w' v.ownBlock) (ht : Tag w v.ownBlock 22) (hx : IntsOwn B w u ps) : PtsOwn B w' v' (xss ++ [ps]) := by
  refine ⟨vs ++ [u], by rw [List.length_append, hm]; exact ho', fun i xs hi => ?_⟩
  rcases Nat.lt_or_ge i xss.length with hlt | hge
  · rw [List.getElem?_append_left hlt] at hi
    obtain ⟨u', h0, h1⟩ := he i xs hi
    exact ⟨u', by rw [List.getElem?_append_left (by omega)]; exact h0, h1.tag hg ht (by decide)⟩
  · rw [List.getElem?_append_right hge] at hi
    have hi0 : i - xss.length = 0 := by
      rcases Nat.eq_zero_or_pos (i - xss.length) with h | h
      · exact h
      · rw [List.getElem?_eq_none (by simp; omega)] at hi; cases hi
    rw [hi0] at hi
    simp at hi
    subst hi
    have hin : i = m := by omega
    subst hin
    exact ⟨u, by rw [List.getElem?_append_right (by omega)]; simp [hvl], hx.tag hg ht (by decide)⟩
end Go.Proofs.Ytccibfldadflkaa

namespace Go.Proofs.Ytccibfldadflkaa
open Go.RowKit

theorem IntsOwn.dr {B g : Nat} {w w' : World} {v : Value} {xs : List Int} (h : IntsOwn B w v xs) (hD : Dr w g w') (hB : g < B) : IntsOwn B w' v xs := row_dr h hD hB
theorem PtsOwn.dr {B g : Nat} {w w' : World} {v : Value} {xss : List (List Int)} (h : PtsOwn B w v xss) (hD : Dr w g w') (hB : g < B) : PtsOwn B w' v xss := by
  obtain ⟨vs, ho, he⟩ := h
  exact ⟨vs, row_dr ho hD hB, fun i xs hi => by obtain ⟨u, h0, h1⟩ := he i xs hi; exact ⟨u, h0, h1.dr hD hB⟩⟩
theorem PtsOwn.weak {B B' : Nat} {w : World} {v : Value} {xss : List (List Int)} (h : PtsOwn B w v xss) (hB : B' ≤ B) : PtsOwn B' w v xss := by
  obtain ⟨vs, ho, he⟩ := h
  exact ⟨vs, ownsRow_weak ho hB, fun i xs hi => by obtain ⟨u, h0, h1⟩ := he i xs hi; exact ⟨u, h0, h1.weak hB⟩⟩
theorem PtsOwn.get {B m c i : Nat} {w : World} {p : Option Addr} {xss : List (List Int)} (h : PtsOwn B w (.slice p m c) xss) (hm : xss.length = m) (hi : i < m) : ∃ g xs u, p = some ⟨g, 0, none⟩ ∧ w.cell? ⟨g, i, none⟩ = some u ∧ IntsOwn B w u xs ∧ xs ∈ xss := by
  obtain ⟨vs, ho, he⟩ := h
  rw [hm] at ho
  obtain ⟨xs, hx⟩ := get_some (xs := xss) (k := i) (by omega)
  obtain ⟨u, h0, h1⟩ := he i xs hx
  have hne : (Value.slice p m c) ≠ .slice none 0 0 := by intro e; simp at e; omega
  obtain ⟨g, c', e, -⟩ := own_form' ho hne
  simp only [Value.slice.injEq] at e
  obtain ⟨rfl, -, rfl⟩ := e
  exact ⟨g, xs, u, rfl, by rw [ho.cellAt i (by omega)]; exact h0, h1, List.mem_of_getElem? hx⟩

end Go.Proofs.Ytccibfldadflkaa

namespace Go.Proofs.Ytccibfldadflkaa
open Go.RowKit

end Go.Proofs.Ytccibfldadflkaa
