/- The texts Q5, joined. No statement is proved here. -/
import Derived.Test.YtccibfldadflkaaQV20
/- Draws: a copy of a nest, sometimes made invalid or large. -/
namespace Go.Proofs.Ytccibfldadflkaa
open Go.RowKit

theorem AffsOwn.kept {B : Nat} {w w' : World} {v : Value} {xs : List Aff} {row : Option Nat} (h : AffsOwn B w v xs) (hg : w.grownBy w' row) (ht : Tag w row 36) (hne : ∀ b, v.ownBlock = some b → row ≠ some b) : AffsOwn B w' v xs :=
  PairsOwn.map' h (fun vs h => World.ownsRow.kept h hg (by
    cases hb : v.ownBlock with
    | none => exact .inl rfl
    | some b => exact .inr (fun e => hne b hb e.symm))) (fun h => ⟨h.1.tag hg ht (by decide), h.2⟩)
theorem PairsOwn.app {α : Type} {T : TypeId} {R : Nat → World → Value → Value → α → Prop} (hR : ∀ {B w w' u0 u1 x row}, R B w u0 u1 x → w.grownBy w' row → Tag w row T → R B w' u0 u1 x)
    {B n m : Nat} {w w' : World} {v v' : Value} {xs ys : List α} {vs us : List Value} (hn : xs.length = n) (hm : ys.length = m)
    (he : ∀ i y, xs[i]? = some y → ∃ t0 t1, vs[i * 2]? = some t0 ∧ vs[i * 2 + 1]? = some t1 ∧ R B w t0 t1 y) (hvl : vs.length = n * 2)
    (he2 : ∀ i y, ys[i]? = some y → ∃ t0 t1, us[i * 2]? = some t0 ∧ us[i * 2 + 1]? = some t1 ∧ R B w t0 t1 y)
    (ho' : w'.ownsRow B T 2 v' (n + m) (vs ++ us)) (hg : w.grownBy w' v.ownBlock) (ht : Tag w v.ownBlock T) : PairsOwn T R B w' v' (xs ++ ys) := by
  refine ⟨vs ++ us, by rw [List.length_append, hn, hm]; exact ho', fun i y hi => ?_⟩
  rcases Nat.lt_or_ge i xs.length with hlt | hge
  · rw [List.getElem?_append_left hlt] at hi
    obtain ⟨t0, t1, h0, h1, h2⟩ := he i y hi
    exact ⟨t0, t1, by rw [List.getElem?_append_left (by omega)]; exact h0, by rw [List.getElem?_append_left (by omega)]; exact h1, hR h2 hg ht⟩
  · rw [List.getElem?_append_right hge] at hi
    obtain ⟨t0, t1, h0, h1, h2⟩ := he2 _ y hi
    have e1 : i * 2 - vs.length = (i - xs.length) * 2 := by omega
    have e2 : i * 2 + 1 - vs.length = (i - xs.length) * 2 + 1 := by omega
    exact ⟨t0, t1, by rw [List.getElem?_append_right (by omega), e1]; exact h0, by rw [List.getElem?_append_right (by omega), e2]; exact h1, hR h2 hg ht⟩

/-- One loop of the nest has got other sides; the row has been written at its two cells or at one of them. -/
theorem LoopsOwn.put {B n d gq i : Nat} {w1 w2 : World} {ls : List Lp} {vs vs2 : List Value} {a0 a1 : Value} {y : Lp} (ho : w2.ownsRow B 75 2 (.slice (some ⟨gq, 0, none⟩) n d) n vs2) (hn : ls.length = n)
    (he : ∀ j x, j ≠ i → ls[j]? = some x → ∃ u0 u1, vs[j * 2]? = some u0 ∧ vs[j * 2 + 1]? = some u1 ∧ LoopO B w1 u0 u1 x)
    (hvs : ∀ k, k ≠ i * 2 → k ≠ i * 2 + 1 → vs2[k]? = vs[k]?) (h0 : vs2[i * 2]? = some a0) (h1 : vs2[i * 2 + 1]? = some a1) (hy : LoopO B w1 a0 a1 y) (hg : w1.grownBy w2 (some gq)) (ht : Tag w1 (some gq) 75) :
    LoopsOwn B w2 (.slice (some ⟨gq, 0, none⟩) n d) (ls.set i y) := by
  refine ⟨vs2, by rw [List.length_set, hn]; exact ho, fun j x hj => ?_⟩
  by_cases e : j = i
  · subst e
    by_cases hlt : j < ls.length
    · rw [List.getElem?_set_self hlt] at hj
      cases hj
      exact ⟨a0, a1, h0, h1, LoopO.grow hy hg ht⟩
    · rw [List.getElem?_eq_none (by rw [List.length_set]; omega)] at hj; cases hj
  · rw [List.getElem?_set_ne (fun h => e h.symm)] at hj
    obtain ⟨u0, u1, g0, g1, g2⟩ := he j x e hj
    exact ⟨u0, u1, by rw [hvs _ (by omega) (by omega)]; exact g0, by rw [hvs _ (by omega) (by omega)]; exact g1, LoopO.grow g2 hg ht⟩
theorem FourL.set {N : Nat} {ls : List Lp} (h : FourL N ls) {i : Nat} {y : Lp} (h0 : FourA N y.1) (h1 : FourA N y.2) : FourL N (ls.set i y) :=
  ⟨by rw [List.length_set]; exact h.1, fun l hl => by rcases List.mem_or_eq_of_mem_set hl with hl | rfl; exact h.2 l hl; exact ⟨h0, h1⟩⟩
theorem LoopsSep.dr {B g : Nat} {w w' : World} {v : Value} {xs : List Lp} (h : LoopsSep B w v xs) (hD : Dr w g w') (hB : g < B) : LoopsSep B w' v xs := by
  obtain ⟨vs, ho, he, hn⟩ := h
  exact ⟨vs, row_dr ho hD hB, fun i x hi => by obtain ⟨u0, u1, h0, h1, h2, h3⟩ := he i x hi; exact ⟨u0, u1, h0, h1, AffsOwn.dr h2 hD hB, AffsOwn.dr h3 hD hB⟩, hn⟩
end Go.Proofs.Ytccibfldadflkaa
