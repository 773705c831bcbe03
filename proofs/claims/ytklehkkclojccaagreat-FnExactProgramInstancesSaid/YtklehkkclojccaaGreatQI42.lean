/- The texts G25, joined. No statement is proved here. -/
import Derived.Test.YtklehkkclojccaaGreatQI46
namespace Go.Proofs.YtklehkkclojccaaGreat
open Go.RowKit Go.Maps
abbrev Us := List Int × Int
def UsR (B : Nat) (w : World) (u0 u1 : Value) (x : Us) : Prop := IntsOwn B w u0 x.1 ∧ u1 = .int .i64 x.2
def UsesOwn : Nat → World → Value → List Us → Prop := PairsOwn 204 UsR
theorem UsR.grow {B : Nat} {w w' : World} {u0 u1 : Value} {x : Us} {row : Option Nat} (h : UsR B w u0 u1 x) (hg : w.grownBy w' row) (ht : Tag w row 204) : UsR B w' u0 u1 x := ⟨h.1.tag hg ht (by decide), h.2⟩
theorem UsR.ext {B : Nat} {w w' : World} {u0 u1 : Value} {x : Us} (h : UsR B w u0 u1 x) (hE : Ext w w') : UsR B w' u0 u1 x := ⟨h.1.ext hE, h.2⟩
theorem UsesOwn.ext {B : Nat} {w w' : World} {v : Value} {l : List Us} (h : UsesOwn B w v l) (hE : Ext w w') : UsesOwn B w' v l := by
 obtain ⟨cs, ho, he⟩ := h
 exact ⟨cs, ownsRow_ext ho hE, fun i x hi => by obtain ⟨u0, u1, h0, h1, h2⟩ := he i x hi; exact ⟨u0, u1, h0, h1, h2.ext hE⟩⟩
theorem UsesOwn.weak {B B' : Nat} {w : World} {v : Value} {l : List Us} (h : UsesOwn B w v l) (hB : B' ≤ B) : UsesOwn B' w v l := by
 obtain ⟨cs, ho, he⟩ := h
 exact ⟨cs, ownsRow_weak ho hB, fun i x hi => by obtain ⟨u0, u1, h0, h1, h2⟩ := he i x hi; exact ⟨u0, u1, h0, h1, h2.1.weak hB, h2.2⟩⟩
theorem UsesOwn.form {B : Nat} {w : World} {v : Value} {l : List Us} (h : UsesOwn B w v l) : ∃ p c, v = .slice p l.length c := by
 obtain ⟨vs, ho, _⟩ := h
 rcases ho.2 with ⟨rfl, hn⟩ | ⟨g, cap, cur, rfl, _⟩
 ·exact ⟨none, 0, by rw [hn]⟩
 ·exact ⟨_, _, rfl⟩
theorem UsesOwn.elem {B n c i : Nat} {w : World} {p : Option Addr} {l : List Us} {x : Us} (h : UsesOwn B w (.slice p n c) l) (hi : l[i]? = some x) :
  ∃ o r k, p = some ⟨o, 0, none⟩ ∧ o < w.heap.size ∧ w.cell? ⟨o, i * 2, none⟩ = some (.slice r x.1.length k) ∧ w.cell? ⟨o, i * 2 + 1, none⟩ = some (.int .i64 x.2) ∧ IntsOwn B w (.slice r x.1.length k) x.1 := by
 obtain ⟨vs, ho, he⟩ := h
 obtain ⟨u0, u1, a0, a1, hr, rfl⟩ := he i x hi
 obtain ⟨r, k, rfl⟩ : ∃ r k, u0 = .slice r x.1.length k := by
  rcases hr.2 with ⟨rfl, hn⟩ | ⟨g, cap, cur, rfl, _⟩
  ·exact ⟨none, 0, by rw [hn]⟩
  ·exact ⟨_, _, rfl⟩
 have ho2 := ho.2
 rcases ho2 with ⟨e, h0⟩ | ⟨o, cap, cur, e, _, hg, _⟩
 ·have := (List.getElem?_eq_some_iff.1 hi).1; omega
 ·cases e
  have hc := World.ownsRow.cells ho (g := o) rfl
  have c0 := hc _ _ a0; have c1 := hc _ _ a1
  simp only [Addr.add_lit, Nat.zero_add] at c0 c1
  exact ⟨o, r, k, rfl, lt_of_block hg, c0, c1, hr⟩
theorem insM_good {ars : List Arr} {ps : List Pt} (hb : progB ars ps = true) {y : InsM} (hy : y ∈ insM ps) : ∃ p, ps[y.1.1]? = some p ∧ p.2[y.1.2.1]? = some y.2 ∧ y.1.2.2 ∈ nptsL p.1 ∧ nptsB p.1 = true ∧ validB y.2.1 y.2.2.1 y.2.2.2 p.1.length = true ∧ cellsOk ars y.2 y.1.2.2 = true := by
 obtain ⟨p, h1, h2, h3⟩ := insM_mem.1 hy
 have hpb := (progB_inv hb).2.2.1 p (List.mem_of_getElem? h1)
 simp only [partB, Bool.and_eq_true, List.all_eq_true] at hpb
 have hs := hpb.2.2 y.2 (List.mem_of_getElem? h3)
 simp only [stOkB, Bool.and_eq_true, List.all_eq_true] at hs
 exact ⟨p, h1, h3, h2, hpb.1, hs.1, (hs.2 _ h2).1⟩
theorem InssOwn.tag {B : Nat} {T : TypeId} {w w' : World} {v : Value} {l : List In3} {row : Option Nat} (h : InssOwn B w v l) (hg : w.grownBy w' row) (ht : Tag w row T) (hT : T ≠ 3) (hT2 : T ≠ 74) : InssOwn B w' v l := by
 obtain ⟨vs, h1, h2⟩ := h
 exact ⟨vs, row_tag h1 hg ht hT2, fun i x hi => by obtain ⟨u0, u1, u2, a, b, c, e0, e1, d⟩ := h2 i x hi; exact ⟨u0, u1, u2, a, b, c, e0, e1, d.tag hg ht hT⟩⟩
end Go.Proofs.YtklehkkclojccaaGreat
