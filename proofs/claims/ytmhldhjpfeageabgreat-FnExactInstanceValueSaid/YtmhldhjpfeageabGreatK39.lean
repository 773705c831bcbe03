/- The texts G22, joined. No statement is proved here. -/
import Derived.Test.YtmhldhjpfeageabGreatK21
/- The model's list of instances. No statement is proved here. -/
namespace Go.Proofs.YtmhldhjpfeageabGreat
open Go.RowKit
theorem PtsOwn.tag {B : Nat} {T : TypeId} {w w' : World} {v : Value} {xss : List (List Int)} {row : Option Nat} (h : PtsOwn B w v xss) (hg : w.grownBy w' row) (ht : Tag w row T) (hT : T ≠ 3) (hT2 : T ≠ 39) : PtsOwn B w' v xss := by
 obtain ⟨vs, h1, h2⟩ := h
 exact ⟨vs, row_tag h1 hg ht hT2, fun i xs hi => by obtain ⟨u, a, b⟩ := h2 i xs hi; exact ⟨u, a, b.tag hg ht hT⟩⟩
theorem PtsOwn.at2 {B m c i : Nat} {w : World} {p : Option Addr} {xss : List (List Int)} {xs : List Int} (h : PtsOwn B w (.slice p m c) xss) (hi : xss[i]? = some xs) : ∃ g u, p = some ⟨g, 0, none⟩ ∧ w.cell? ⟨g, i, none⟩ = some u ∧ IntsOwn B w u xs := by
 obtain ⟨vs, ho, he⟩ := h
 obtain ⟨u, h0, h1⟩ := he i xs hi
 have ho2 := ho.2
 rcases ho2 with ⟨e, hn⟩ | ⟨g, cap, cur, e, _, hg, _⟩
 ·have := (List.getElem?_eq_some_iff.1 hi).1; omega
 ·cases e
  have hc := World.ownsRow.cells ho (g := g) rfl _ _ h0
  simp only [Addr.add_lit, Nat.zero_add] at hc
  exact ⟨g, u, rfl, hc, h1⟩
abbrev In3 := Nat × Nat × List Int
def InsC (B : Nat) (w : World) (u0 u1 u2 : Value) (x : In3) : Prop := u0 = .int .i64 (x.1 : Int) ∧ u1 = .int .i64 (x.2.1 : Int) ∧ IntsOwn B w u2 x.2.2
def InssOwn (B : Nat) (w : World) (v : Value) (l : List In3) : Prop :=
 ∃ vs, w.ownsRow B 45 3 v l.length vs ∧ ∀ (i : Nat) (x : In3), l[i]? = some x → ∃ u0 u1 u2, vs[i * 3]? = some u0 ∧ vs[i * 3 + 1]? = some u1 ∧ vs[i * 3 + 2]? = some u2 ∧ InsC B w u0 u1 u2 x
theorem InssOwn.form {B : Nat} {w : World} {v : Value} {l : List In3} (h : InssOwn B w v l) : ∃ p c, v = .slice p l.length c := by
 obtain ⟨vs, ho, _⟩ := h
 rcases ho.2 with ⟨rfl, hn⟩ | ⟨g, cap, cur, rfl, _⟩
 ·exact ⟨none, 0, by rw [hn]⟩
 ·exact ⟨_, _, rfl⟩
theorem InssOwn.ext {B : Nat} {w w' : World} {v : Value} {l : List In3} (h : InssOwn B w v l) (hE : Ext w w') : InssOwn B w' v l := by
 obtain ⟨vs, h1, h2⟩ := h
 exact ⟨vs, ownsRow_ext h1 hE, fun i x hi => by obtain ⟨u0, u1, u2, a, b, c, e0, e1, d⟩ := h2 i x hi; exact ⟨u0, u1, u2, a, b, c, e0, e1, d.ext hE⟩⟩
theorem InssOwn.weak {B B' : Nat} {w : World} {v : Value} {l : List In3} (h : InssOwn B w v l) (hB : B' ≤ B) : InssOwn B' w v l := by
 obtain ⟨vs, h1, h2⟩ := h
 exact ⟨vs, ownsRow_weak h1 hB, fun i x hi => by obtain ⟨u0, u1, u2, a, b, c, e0, e1, d⟩ := h2 i x hi; exact ⟨u0, u1, u2, a, b, c, e0, e1, d.weak hB⟩⟩
theorem InssOwn.push {B n : Nat} {w w' : World} {v v' u0 u1 u2 : Value} {l : List In3} {x : In3} {vs : List Value} (hn : l.length = n)
  (he : ∀ (i : Nat) (x : In3), l[i]? = some x → ∃ u0 u1 u2, vs[i * 3]? = some u0 ∧ vs[i * 3 + 1]? = some u1 ∧ vs[i * 3 + 2]? = some u2 ∧ InsC B w u0 u1 u2 x) (hvl : vs.length = n * 3)
  (ho' : w'.ownsRow B 45 3 v' (n + 1) (vs ++ [u0, u1, u2])) (hg : w.grownBy w' v.ownBlock) (ht : Tag w v.ownBlock 45) (hx : InsC B w u0 u1 u2 x) : InssOwn B w' v' (l ++ [x]) := by
 have tg : ∀ {t0 t1 t2 : Value} {y : In3}, InsC B w t0 t1 t2 y → InsC B w' t0 t1 t2 y := fun h => ⟨h.1, h.2.1, h.2.2.tag hg ht (by decide)⟩
 refine ⟨vs ++ [u0, u1, u2], by rw [List.length_append, hn]; exact ho', fun i y hi => ?_⟩
 rcases Nat.lt_or_ge i l.length with hlt | hge
 ·rw [List.getElem?_append_left hlt] at hi
  obtain ⟨t0, t1, t2, h0, h1, h2, h3⟩ := he i y hi
  exact ⟨t0, t1, t2, by rw [List.getElem?_append_left (by omega)]; exact h0, by rw [List.getElem?_append_left (by omega)]; exact h1, by rw [List.getElem?_append_left (by omega)]; exact h2, tg h3⟩
 ·rw [List.getElem?_append_right hge] at hi
  have hi0 : i - l.length = 0 := by
   rcases Nat.eq_zero_or_pos (i - l.length) with h | h
   ·exact h
   ·rw [List.getElem?_eq_none (by simp; omega)] at hi; cases hi
  rw [hi0] at hi
  simp at hi
  subst hi
  have hin : i = n := by omega
  subst hin
  exact ⟨u0, u1, u2, by rw [List.getElem?_append_right (by omega)]; simp [hvl], by rw [List.getElem?_append_right (by omega), hvl]; simp [show i * 3 + 1 - i * 3 = 1 by omega], by rw [List.getElem?_append_right (by omega), hvl]; simp [show i * 3 + 2 - i * 3 = 2 by omega], tg hx⟩
theorem InssOwn.elem {B n c i : Nat} {w : World} {p : Option Addr} {l : List In3} {x : In3} (h : InssOwn B w (.slice p n c) l) (hi : l[i]? = some x) :
  ∃ o r k, p = some ⟨o, 0, none⟩ ∧ o < w.heap.size ∧ w.cell? ⟨o, i * 3, none⟩ = some (.int .i64 (x.1 : Int)) ∧ w.cell? ⟨o, i * 3 + 1, none⟩ = some (.int .i64 (x.2.1 : Int)) ∧ w.cell? ⟨o, i * 3 + 2, none⟩ = some (.slice r x.2.2.length k) ∧ IntsOwn B w (.slice r x.2.2.length k) x.2.2 := by
 obtain ⟨vs, ho, he⟩ := h
 obtain ⟨u0, u1, u2, a0, a1, a2, rfl, rfl, hr⟩ := he i x hi
 obtain ⟨r, k, rfl⟩ : ∃ r k, u2 = .slice r x.2.2.length k := by
  rcases hr.2 with ⟨rfl, hn⟩ | ⟨g, cap, cur, rfl, _⟩
  ·exact ⟨none, 0, by rw [hn]⟩
  ·exact ⟨_, _, rfl⟩
 have ho2 := ho.2
 rcases ho2 with ⟨e, h0⟩ | ⟨o, cap, cur, e, _, hg, _⟩
 ·have := (List.getElem?_eq_some_iff.1 hi).1; omega
 ·cases e
  have hc := World.ownsRow.cells ho (g := o) rfl
  have c0 := hc _ _ a0; have c1 := hc _ _ a1; have c2 := hc _ _ a2
  simp only [Addr.add_lit, Nat.zero_add] at c0 c1 c2
  exact ⟨o, r, k, rfl, lt_of_block hg, c0, c1, c2, hr⟩
theorem progB_inv {ars : List Arr} {ps : List Pt} (h : progB ars ps = true) : arrsB ars = true ∧ ps.length ≤ 4 ∧ (∀ p ∈ ps, partB ars p = true) ∧ instN ps ≤ 120 := by
 simp only [progB, Bool.and_eq_true, decide_eq_true_eq, List.all_eq_true] at h
 exact ⟨h.1, h.2.1, h.2.2.1, h.2.2.2⟩
end Go.Proofs.YtmhldhjpfeageabGreat
