/- The texts Q2b, joined. No statement is proved here. -/
import Derived.Test.YtccibfldadflkaaQV19
/- Draws: a copy of a nest, its sides apart. -/
namespace Go.Proofs.Ytccibfldadflkaa
open Go.RowKit

def blks (vs : List Value) : List Nat := vs.flatMap (fun u => u.ownBlock.toList)
/-- A nest of the call's own whose sides lie in blocks apart. -/
def LoopsSep (B : Nat) (w : World) (v : Value) (ls : List Lp) : Prop :=
  ∃ vs, w.ownsRow B 75 2 v ls.length vs ∧ (∀ i x, ls[i]? = some x → ∃ u0 u1, vs[i * 2]? = some u0 ∧ vs[i * 2 + 1]? = some u1 ∧ LoopO B w u0 u1 x) ∧ (blks vs).Nodup
theorem LoopO.ext' {B : Nat} {w w' : World} {u0 u1 : Value} {x : Lp} (h : LoopO B w u0 u1 x) (hE : Ext w w') : LoopO B w' u0 u1 x := ⟨AffsOwn.ext h.1 hE, AffsOwn.ext h.2 hE⟩
theorem LoopsSep.own {B : Nat} {w : World} {v : Value} {ls : List Lp} (h : LoopsSep B w v ls) : LoopsOwn B w v ls := by
  obtain ⟨vs, ho, he, -⟩ := h; exact ⟨vs, ho, he⟩
theorem LoopsSep.ext {B : Nat} {w w' : World} {v : Value} {ls : List Lp} (h : LoopsSep B w v ls) (hE : Ext w w') : LoopsSep B w' v ls := by
  obtain ⟨vs, ho, he, hn⟩ := h
  exact ⟨vs, ownsRow_ext ho hE, fun i x hi => by obtain ⟨u0, u1, h0, h1, h2⟩ := he i x hi; exact ⟨u0, u1, h0, h1, h2.ext' hE⟩, hn⟩
theorem LoopsSep.push {B n N M : Nat} {w w' : World} {v v' u0 u1 : Value} {xs : List Lp} {x : Lp} {vs : List Value} (hn : xs.length = n)
    (he : ∀ i y, xs[i]? = some y → ∃ t0 t1, vs[i * 2]? = some t0 ∧ vs[i * 2 + 1]? = some t1 ∧ LoopO B w t0 t1 y) (hvl : vs.length = n * 2)
    (ho' : w'.ownsRow B 75 2 v' (n + 1) (vs ++ [u0, u1])) (hg : w.grownBy w' v.ownBlock) (ht : Tag w v.ownBlock 75) (hx : LoopO B w u0 u1 x)
    (hnd : (blks vs).Nodup) (hN : ∀ b ∈ blks vs, b < N) (hNM : N ≤ M) (h0 : ∀ b, u0.ownBlock = some b → N ≤ b ∧ b < M) (h1 : ∀ b, u1.ownBlock = some b → M ≤ b) : LoopsSep B w' v' (xs ++ [x]) := by
  refine ⟨vs ++ [u0, u1], by rw [List.length_append, hn]; exact ho', fun i y hi => ?_, ?_⟩
  · rcases Nat.lt_or_ge i xs.length with hlt | hge
    · rw [List.getElem?_append_left hlt] at hi
      obtain ⟨t0, t1, g0, g1, g2⟩ := he i y hi
      exact ⟨t0, t1, by rw [List.getElem?_append_left (by omega)]; exact g0, by rw [List.getElem?_append_left (by omega)]; exact g1, LoopO.grow g2 hg ht⟩
    · rw [List.getElem?_append_right hge] at hi
      have hi0 : i - xs.length = 0 := by
        rcases Nat.eq_zero_or_pos (i - xs.length) with h | h
        · exact h
        · rw [List.getElem?_eq_none (by simp; omega)] at hi; cases hi
      rw [hi0] at hi
      simp at hi
      subst hi
      have hin : i = n := by omega
      subst hin
      exact ⟨u0, u1, by rw [List.getElem?_append_right (by omega)]; simp [hvl], by rw [List.getElem?_append_right (by omega), hvl]; simp [show i * 2 + 1 - i * 2 = 1 by omega], LoopO.grow hx hg ht⟩
  · have e : blks (vs ++ [u0, u1]) = blks vs ++ (u0.ownBlock.toList ++ u1.ownBlock.toList) := by simp [blks]
    rw [e]
    refine List.nodup_append.2 ⟨hnd, List.nodup_append.2 ⟨?_, ?_, ?_⟩, ?_⟩
    · cases u0.ownBlock <;> simp
    · cases u1.ownBlock <;> simp
    · intro a ha b hb e
      rw [Option.mem_toList] at ha hb
      have := h0 a ha; have := h1 b hb; omega
    · intro a ha b hb e
      have := hN a ha
      rcases List.mem_append.1 hb with hb | hb
      · rw [Option.mem_toList] at hb; have := h0 b hb; omega
      · rw [Option.mem_toList] at hb
        have h2 := h1 b hb
        omega

end Go.Proofs.Ytccibfldadflkaa
